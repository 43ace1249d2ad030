/- A chain in memory: Last; the search for a stamp; At. -/
import Derived.Test.YthaknohnccmfoaaHn2Y
namespace Go.Proofs.Ythaknohnccmfoaa.kY
open Go.RowKit

set_option maxRecDepth 100000 in
set_option maxHeartbeats 400000 in
theorem last_any {w : World} {F : Nat → Prop} {p : Nat} {v : Value} {xs : List Lk} (h : Hn w F p v xs) (hl : xs.length ≤ 4000000000000) : Calls Try.prog 46 #[.pointer (some ⟨p, 0, none⟩)] w fun e w' => e = tellL (lastK xs xs.length) (decide (0 < xs.length)) ∧ Below w.heap.size w w' := by
  obtain ⟨W, hW⟩ : ∃ W, W = w.alloc (.cells #[.int .i64 0, .slice none 0 0, .bool false] 95) := ⟨_, rfl⟩
  have hb : Below w.heap.size w W := by rw [hW]; exact (Below.refl _ _).alloc (Nat.le_refl _) _
  have hlt : w.heap.size < W.heap.size := by rw [hW]; simp
  have c0 : ∀ z, Below W.heap.size W z → z.heap[w.heap.size]? = some (.cells #[.int .i64 0, .slice none 0 0, .bool false] 95 (0, 0)) := fun z hz => by
    rw [hz.block w.heap.size hlt, hW]; exact heap_alloc_new w _
  have h1 := h.below hb
  have hlen := len_any h1
  have hla : ∀ n : Int, n = (xs.length : Int) → Calls Try.prog 64 #[.pointer (some ⟨p, 0, none⟩), .int .i64 n] W fun e w' => e = tellL (lastK xs xs.length) (decide (0 < xs.length)) ∧ Below W.heap.size W w' := by
    rintro n rfl
    by_cases h0 : xs.length = 0
    · rw [h0]
      exact lastOf_zero _ _
    · have := lastOf_some h1 (xs.length - 1) (by omega) hl
      rw [show ((xs.length - 1 : Nat) : Int) + 1 = (xs.length : Int) by omega] at this
      unfold lastK
      rw [if_neg h0, decide_eq_true (by omega)]
      exact this
  generalize lastK xs xs.length = x at *
  generalize decide (0 < xs.length) = bb at *
  generalize (xs.length : Int) = n at *
  have hla := hla n rfl
  clear h h1 hl
  go_enter Try.func46, Try.ntmps46
  go_wp2_with fail
  rw [← hW]
  clear hW
  refine hlen.mono ?_
  rintro e w1 ⟨rfl, hw1⟩
  obtain rfl := hw1.symm
  clear hlen hw1
  go_wp2_with fail
  refine hla.mono ?_
  rintro e w2 ⟨rfl, hb2⟩
  have k0 := c0 w2 hb2
  have f0 : ∀ j, w2.frozen? ⟨w.heap.size, j, none⟩ = false := fun j => frozen_of_row _ _ _ _ _ k0
  have d0 : w2.cell? ⟨w.heap.size, 0, none⟩ = some (.int .i64 0) := cell_of_row _ _ _ _ _ _ k0
  have d1 : w2.cell? ⟨w.heap.size, 1, none⟩ = some (.slice none 0 0) := cell_of_row _ _ _ _ _ _ k0
  have d2 : w2.cell? ⟨w.heap.size, 2, none⟩ = some (.bool false) := cell_of_row _ _ _ _ _ _ k0
  have hz := hb2.size
  have HB := hide_it (hb.trans (hb2.mono hb.size))
  clear c0 hla hb2 k0
  unfold tellL lkV
  go_wp2
  refine bodyPost_ret (v := .tuple #[.agg #[.int .i64 x.n, .slice x.v.1 x.v.2.1 x.v.2.2, .bool x.d], .bool bb]) (by simp [results, Try.results46, d0, d1, d2, go_sem]) rfl ⟨rfl, ?_⟩
  exact ((HB.out.setCell (p := ⟨w.heap.size, 0, none⟩) (Nat.le_refl _) _).setCell (p := ⟨w.heap.size, 1, none⟩) (Nat.le_refl _) _).setCell (p := ⟨w.heap.size, 2, none⟩) (Nat.le_refl _) _

set_option maxRecDepth 100000 in
set_option maxHeartbeats 1000000 in
theorem above_any {w : World} {F : Nat → Prop} {p : Nat} {v : Value} {xs : List Lk} (h : Hn w F p v xs) (bc bs i : Nat) (s : Int) (hc : w.cell? ⟨bc, 0, none⟩ = some (.pointer (some ⟨p, 0, none⟩))) (hs : w.cell? ⟨bs, 0, none⟩ = some (.int .i64 s)) (hi : i < xs.length) :
    Calls Try.prog 84 #[.int .i64 (i : Int), .pointer (some ⟨bc, 0, none⟩), .pointer (some ⟨bs, 0, none⟩)] w fun e w' => e = .returned (.bool (decide (s < (lk xs i).n))) ∧ Below w.heap.size w w' := by
  obtain ⟨c0, _⟩ := h.cell
  obtain ⟨a, cap, rfl, hr, _, _, _, _⟩ := h.row
  obtain ⟨b, o, rfl, hb, d0, d1, d2⟩ := hr.here hi
  have hii : (i : Int) < (xs.length : Int) := by omega
  generalize (lk xs i).n = x at *
  clear h hr d1 d2
  go_enter Try.func84, Try.ntmps84
  go_wp2
  go_quiet (fail)
  go_wp2
  go_ret
  exact ⟨rfl, below_drewN (Below.refl _ _) _⟩

set_option maxRecDepth 100000 in
set_option maxHeartbeats 1000000 in
theorem search_any (bc bs n : Nat) (p : Nat → Bool) (w : World) (hn : n ≤ 4000000000000) (hmono : Hid (∀ a b, a ≤ b → b < n → p a = true → p b = true))
    (hf : Hid (∀ z i, Below w.heap.size w z → i < n → Calls Try.prog 84 #[.int .i64 (i : Int), .pointer (some ⟨bc, 0, none⟩), .pointer (some ⟨bs, 0, none⟩)] z fun e w' => e = .returned (.bool (p i)) ∧ Below z.heap.size z w')) :
    Calls Try.prog 83 #[.int .i64 (n : Int), .func (.func 84) #[] #[.pointer (some ⟨bc, 0, none⟩), .pointer (some ⟨bs, 0, none⟩)]] w fun e w' => (∃ J : Nat, e = .returned (.int .i64 (J : Int)) ∧ J ≤ n ∧ (∀ i, i < J → p i = false) ∧ ∀ i, J ≤ i → i < n → p i = true) ∧ Below w.heap.size w w' := by
  go_enter Try.func83, Try.ntmps83
  go_wp2_with fail
  go_loopw [5, 6] (fun i j wr => ∃ I J : Nat, I ≤ J ∧ J ≤ n ∧ i = .int .i64 (I : Int) ∧ j = .int .i64 (J : Int) ∧ Hid ((∀ t, t < I → p t = false) ∧ ∀ t, J ≤ t → t < n → p t = true) ∧ Hid (Below w.heap.size w wr)) (fun i j _ => (intOf j).toNat - (intOf i).toNat)
  case atStart => exact ⟨0, n, by omega, by omega, rfl, rfl, hide_it ⟨fun t ht => by omega, fun t h1 h2 => by omega⟩, hide_it (Below.refl _ _)⟩
  case round =>
    obtain ⟨I, J, h1, h2, rfl, rfl, HP, HB⟩ := hrel
    by_cases hij : I < J
    · obtain ⟨h, hh⟩ : ∃ h, h = (I + J) / 2 := ⟨_, rfl⟩
      have hhl : h < n := by omega
      have hhI : I ≤ h := by omega
      have hhJ : h < J := by omega
      have e1 : ((I : Int) + (J : Int)) / 2 = (h : Int) := by omega
      have e2 : IntKind.u64.wrap ((I : Int) + (J : Int)) = (I : Int) + (J : Int) := by rw [IntKind.wrap_u64]; omega
      have e3 : IntKind.i64.wrap (h : Int) = (h : Int) := by rw [IntKind.wrap_i64]; omega
      have hiji : (I : Int) < (J : Int) := by omega
      have hc := hf.out wr h HB.out hhl
      clear hh
      cases hp : p h
      · rw [hp] at hc
        have HQ := hide_it hp
        clear hp
        go_wp2_with (refine hc.mono ?_; rintro e w1 ⟨rfl, hb1⟩)
        have HB1 := hide_it (HB.out.trans (hb1.mono HB.out.size))
        clear hc hb1
        go_wp2_with fail
        go_roundw
        case rel => exact ⟨h + 1, J, by omega, by omega, by go_num, rfl, hide_it ⟨(fun t ht => by
            cases e : p t with
            | false => rfl
            | true => have := hmono.out t h (by omega) hhl e; rw [HQ.out] at this; cases this), HP.out.2⟩, HB1⟩
        case measure => simp [intOf]; omega
      · rw [hp] at hc
        have HQ := hide_it hp
        clear hp
        go_wp2_with (refine hc.mono ?_; rintro e w1 ⟨rfl, hb1⟩)
        have HB1 := hide_it (HB.out.trans (hb1.mono HB.out.size))
        clear hc hb1
        go_wp2_with fail
        go_roundw
        case rel => exact ⟨I, h, by omega, by omega, rfl, rfl, hide_it ⟨HP.out.1, fun t ht htn => hmono.out h t ht htn HQ.out⟩, HB1⟩
        case measure => simp [intOf]; omega
    · obtain rfl : I = J := by omega
      go_wp2_with fail
      go_ret
      exact ⟨⟨I, rfl, h2, HP.out.1, HP.out.2⟩, HB.out⟩

set_option maxRecDepth 100000 in
set_option maxHeartbeats 1000000 in
theorem upTo_any {w : World} {F : Nat → Prop} {p : Nat} {v : Value} {xs : List Lk} (h : Hn w F p v xs) (hl : xs.length ≤ 4000000000000) (s : Int) :
    Calls Try.prog 65 #[.pointer (some ⟨p, 0, none⟩), .int .i64 s] w fun e w' => e = .returned (.int .i64 (upN xs s : Int)) ∧ Below w.heap.size w w' := by
  obtain ⟨W, hW⟩ : ∃ W, W = (w.alloc (.cells #[.pointer (some ⟨p, 0, none⟩)] 88)).alloc (.cells #[.int .i64 s] 3) := ⟨_, rfl⟩
  have hb : Below w.heap.size w W := by rw [hW]; exact ((Below.refl _ _).alloc (Nat.le_refl _) _).alloc (by simp) _
  have hz : w.heap.size + 1 < W.heap.size := by rw [hW]; simp
  have k0 : W.heap[w.heap.size]? = some (.cells #[.pointer (some ⟨p, 0, none⟩)] 88 (0, 0)) := by rw [hW, Below.heap_alloc _ _ _ (by simp)]; exact heap_alloc_new w _
  have k1 : W.heap[w.heap.size + 1]? = some (.cells #[.int .i64 s] 3 (0, 0)) := by
    have h9 := heap_alloc_new (w.alloc (.cells #[.pointer (some ⟨p, 0, none⟩)] 88)) (.cells #[.int .i64 s] 3)
    rw [show (w.alloc (.cells #[.pointer (some ⟨p, 0, none⟩)] 88)).heap.size = w.heap.size + 1 by simp] at h9
    rw [hW]; exact h9
  have h1 := h.below hb
  have hlen := len_any h1
  have c0 : W.cell? ⟨w.heap.size, 0, none⟩ = some (.pointer (some ⟨p, 0, none⟩)) := cell_of_row _ _ _ _ _ _ k0
  have hs := search_any w.heap.size (w.heap.size + 1) xs.length (fun i => decide (s < (lk xs i).n)) W hl (hide_it fun a b hab hbn ha => by
      have hg := h.good
      have ha' : s < (lk xs a).n := by simpa using ha
      by_cases e : a = b
      · subst e; exact ha
      · have := hg.rise a b (by omega) hbn
        exact decide_eq_true (by omega)) (hide_it fun z i hz2 hi => above_any (h1.below hz2) _ _ i s ((cell_of_row _ _ _ _ _ _ ((hz2.block _ (by omega)).trans k0))) ((cell_of_row _ _ _ _ _ _ ((hz2.block _ (by omega)).trans k1))) hi)
  have hup : ∀ J, J ≤ xs.length → (∀ i, i < J → decide (s < (lk xs i).n) = false) → (∀ i, J ≤ i → i < xs.length → decide (s < (lk xs i).n) = true) → J = upN xs s := fun J hJ h1 h2 =>
    (upN_eq hJ (fun i hi => by have := of_decide_eq_false (h1 i hi); omega) (fun i h3 h4 => of_decide_eq_true (h2 i h3 h4))).symm
  have hmf : ∀ (fn : Fn) (first cap : Array Value) (w : World), (Instr.makeFunc fn first cap).run Try.prog w = .ok (.func fn first cap) w := fun _ _ _ _ => rfl
  generalize (xs.length : Int) = n at *
  clear h h1 hl k0 k1
  go_enter Try.func65, Try.ntmps65
  go_wp2_with fail
  rw [← hW]
  clear hW
  refine hlen.mono ?_
  rintro e w1 ⟨rfl, hw1⟩
  obtain rfl := hw1.symm
  clear hlen hw1
  go_wp2_with fail
  refine hs.mono ?_
  rintro e w2 ⟨⟨J, rfl, hJ, h1, h2⟩, hb2⟩
  have HU := hide_it (hup J hJ h1 h2)
  have HB := hide_it (hb.trans (hb2.mono hb.size))
  clear hs hup h1 h2 hb2 hJ
  go_wp2_with fail
  go_ret
  exact ⟨by rw [HU.out]; rfl, HB.out⟩

set_option maxRecDepth 100000 in
set_option maxHeartbeats 400000 in
theorem at_any {w : World} {F : Nat → Prop} {p : Nat} {v : Value} {xs : List Lk} (h : Hn w F p v xs) (hl : xs.length ≤ 4000000000000) (s : Int) : Calls Try.prog 50 #[.pointer (some ⟨p, 0, none⟩), .int .i64 s] w fun e w' => e = tellL (lastK xs (upN xs s)) (decide (0 < upN xs s)) ∧ Below w.heap.size w w' := by
  obtain ⟨W, hW⟩ : ∃ W, W = w.alloc (.cells #[.int .i64 0, .slice none 0 0, .bool false] 95) := ⟨_, rfl⟩
  have hb : Below w.heap.size w W := by rw [hW]; exact (Below.refl _ _).alloc (Nat.le_refl _) _
  have hlt : w.heap.size < W.heap.size := by rw [hW]; simp
  have c0 : ∀ z, Below W.heap.size W z → z.heap[w.heap.size]? = some (.cells #[.int .i64 0, .slice none 0 0, .bool false] 95 (0, 0)) := fun z hz => by
    rw [hz.block w.heap.size hlt, hW]; exact heap_alloc_new w _
  have hup := upTo_any (h.below hb) hl s
  have hla : ∀ n : Int, n = (upN xs s : Int) → ∀ z, Below W.heap.size W z → Calls Try.prog 64 #[.pointer (some ⟨p, 0, none⟩), .int .i64 n] z fun e w' => e = tellL (lastK xs (upN xs s)) (decide (0 < upN xs s)) ∧ Below z.heap.size z w' := by
    rintro n rfl z hz
    have hle := upN_le xs s
    by_cases h0 : upN xs s = 0
    · rw [h0]
      exact lastOf_zero _ _
    · have := lastOf_some ((h.below hb).below hz) (upN xs s - 1) (by omega) hl
      rw [show ((upN xs s - 1 : Nat) : Int) + 1 = (upN xs s : Int) by omega] at this
      unfold lastK
      rw [if_neg h0, decide_eq_true (by omega)]
      exact this
  generalize lastK xs (upN xs s) = x at *
  generalize decide (0 < upN xs s) = bb at *
  generalize (upN xs s : Int) = n at *
  have hla := hla n rfl
  clear h hl
  go_enter Try.func50, Try.ntmps50
  go_wp2_with fail
  rw [← hW]
  clear hW
  refine hup.mono ?_
  rintro e w1 ⟨rfl, hb1⟩
  have hla := hla w1 hb1
  clear hup
  go_wp2_with fail
  refine hla.mono ?_
  rintro e w2 ⟨rfl, hb2⟩
  have hz1 := hb1.size
  have hb12 := hb1.trans (hb2.mono hb1.size)
  have k0 := c0 w2 hb12
  have f0 : ∀ j, w2.frozen? ⟨w.heap.size, j, none⟩ = false := fun j => frozen_of_row _ _ _ _ _ k0
  have d0 : w2.cell? ⟨w.heap.size, 0, none⟩ = some (.int .i64 0) := cell_of_row _ _ _ _ _ _ k0
  have d1 : w2.cell? ⟨w.heap.size, 1, none⟩ = some (.slice none 0 0) := cell_of_row _ _ _ _ _ _ k0
  have d2 : w2.cell? ⟨w.heap.size, 2, none⟩ = some (.bool false) := cell_of_row _ _ _ _ _ _ k0
  have hz := hb2.size
  have HB := hide_it (hb.trans (hb12.mono hb.size))
  clear c0 hla hb1 hb2 hb12 k0
  unfold tellL lkV
  go_wp2
  refine bodyPost_ret (v := .tuple #[.agg #[.int .i64 x.n, .slice x.v.1 x.v.2.1 x.v.2.2, .bool x.d], .bool bb]) (by simp [results, Try.results50, d0, d1, d2, go_sem]) rfl ⟨rfl, ?_⟩
  exact ((HB.out.setCell (p := ⟨w.heap.size, 0, none⟩) (Nat.le_refl _) _).setCell (p := ⟨w.heap.size, 1, none⟩) (Nat.le_refl _) _).setCell (p := ⟨w.heap.size, 2, none⟩) (Nat.le_refl _) _

end Go.Proofs.Ythaknohnccmfoaa.kY
