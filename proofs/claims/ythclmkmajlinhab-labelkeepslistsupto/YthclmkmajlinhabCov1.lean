/- Which of the greater labels stand right above one; a copy of a list, sorted, each label once. -/
import Derived.Test.YthclmkmajlinhabClose
import Derived.Lib.SliceRun
namespace Go.Proofs.Ythclmkmajlinhab
open Go.RowKit

set_option maxHeartbeats 400000 in
theorem between_any (y x B : Nat) (w : World) (hy : W64 y) (hx : W64 x) (hc : w.cell? ⟨B, 0, none⟩ = some (.int .u64 (x : Int))) :
    Calls Try.prog 36 #[.int .u64 (y : Int), .pointer (some ⟨B, 0, none⟩)] w fun e w' => e = .returned (.bool (lq y x)) ∧ w' = w := by
  go_enter Try.func36, Try.ntmps36
  go_wp2_with (go_at_call 27; refine (leq_any _ _ _ hy hx).mono ?_; rintro e w' ⟨rfl, rfl⟩)
  go_ret
  exact ⟨rfl, rfl⟩

def anyLq (zs : List Nat) (x : Nat) : Bool := zs.any fun y => lq y x
def noneTo (zs : List Nat) (x k : Nat) : Prop := ∀ i, i < k → lq (at0 zs i) x = false

theorem anyLq_yes {zs : List Nat} {x k : Nat} (hk : k < zs.length) (h : lq (at0 zs k) x = true) : anyLq zs x = true := by
  unfold anyLq; rw [List.any_eq_true]; exact ⟨_, at0_mem hk, h⟩
theorem anyLq_no {zs : List Nat} {x : Nat} (h : noneTo zs x zs.length) : anyLq zs x = false := by
  unfold anyLq; rw [List.any_eq_false]
  intro y hy
  obtain ⟨i, hi, rfl⟩ := mem_at0 hy
  rw [h i hi]; simp

set_option maxHeartbeats 400000 in
theorem indexFunc_any (a : Option Addr) (cap : Nat) (zs : List Nat) (x B : Nat) (w : World) (hr : Row w a zs) (h64 : All64 zs) (hl : zs.length ≤ maxLen) (hx : W64 x) (hc : w.cell? ⟨B, 0, none⟩ = some (.int .u64 (x : Int))) :
    Calls Try.prog 45 #[.slice a zs.length cap, .func (.func 36) #[] #[.pointer (some ⟨B, 0, none⟩)]] w fun e w' => (∃ r : Int, e = .returned (.int .i64 r) ∧ decide (0 ≤ r) = anyLq zs x) ∧ w' = w := by
  unfold maxLen at hl
  go_enter Try.func45, Try.ntmps45
  go_wp2
  go_loop [8] (fun i => ∃ k : Nat, k ≤ zs.length ∧ i = .int .i64 k ∧ Hid (noneTo zs x k)) (fun i => zs.length - (intOf i).toNat)
  case atStart => exact ⟨0, by omega, rfl, fun i hi => by omega⟩
  case round =>
    obtain ⟨k, hk, rfl, hto⟩ := hrel
    by_cases hlt : k < zs.length
    · obtain ⟨b, o, rfl, _, hcc⟩ := hr.here hlt
      have hck := hcc k hlt
      clear hr hcc
      obtain ⟨z, hz⟩ : ∃ z, z = at0 zs k := ⟨_, rfl⟩
      have HZ : Hid (z = at0 zs k) := hz
      have hz64 : W64 z := hz ▸ h64.at k
      rw [← hz] at hck
      clear hz
      cases he : lq z x
      · go_wp2_with (go_at_call 36; refine (between_any _ _ _ _ hz64 hx hc).mono ?_; rintro e w' ⟨rfl, rfl⟩)
        go_round
        case rel =>
          refine ⟨k + 1, by omega, by go_num, fun i hi => ?_⟩
          by_cases e : i = k
          · subst e; rw [← HZ.out]; exact he
          · exact hto i (by omega)
        case measure => simp [intOf]; omega
      · go_wp2_with (go_at_call 36; refine (between_any _ _ _ _ hz64 hx hc).mono ?_; rintro e w' ⟨rfl, rfl⟩)
        go_ret
        exact ⟨⟨_, rfl, by rw [anyLq_yes hlt (by rw [← HZ.out]; exact he)]; simp⟩, rfl⟩
    · go_wp2
      go_ret
      have he : k = zs.length := by omega
      subst he
      exact ⟨⟨_, rfl, by rw [anyLq_no hto]; simp⟩, rfl⟩

set_option maxHeartbeats 400000 in
theorem containsFunc_any (a : Option Addr) (cap : Nat) (zs : List Nat) (x B : Nat) (w : World) (hr : Row w a zs) (h64 : All64 zs) (hl : zs.length ≤ maxLen) (hx : W64 x) (hc : w.cell? ⟨B, 0, none⟩ = some (.int .u64 (x : Int))) :
    Calls Try.prog 37 #[.slice a zs.length cap, .func (.func 36) #[] #[.pointer (some ⟨B, 0, none⟩)]] w fun e w' => e = .returned (.bool (anyLq zs x)) ∧ w' = w := by
  have hci := indexFunc_any a cap zs x B w hr h64 hl hx hc
  clear hc hr
  go_enter Try.func37, Try.ntmps37
  go_wp2_with fail
  refine hci.mono ?_
  rintro e w' ⟨⟨r, rfl, hd⟩, rfl⟩
  go_wp2
  go_ret
  exact ⟨rfl, rfl⟩

/-- What is right above l: taken in, where it is above l and nothing that was taken in is at or below it. -/
def raStep (l : Nat) (found : List Nat) (x : Nat) : List Nat := if lq l x && !anyLq found x then found ++ [x] else found
def raOf (l : Nat) (zs : List Nat) : List Nat := zs.foldl (raStep l) []

theorem raStep_len (l : Nat) (f : List Nat) (x : Nat) : (raStep l f x).length ≤ f.length + 1 := by unfold raStep; split <;> simp
theorem foldl_len (l : Nat) (zs : List Nat) : ∀ f : List Nat, (zs.foldl (raStep l) f).length ≤ f.length + zs.length := by
  induction zs with
  | nil => intro f; simp
  | cons z t ih => intro f; have h1 := ih (raStep l f z); have h2 := raStep_len l f z; simp; omega
theorem raOf_len (l : Nat) (zs : List Nat) : (raOf l zs).length ≤ zs.length := by have := foldl_len l zs []; simpa [raOf] using this
theorem raStep_mem {l : Nat} {f : List Nat} {x y : Nat} (h : y ∈ raStep l f x) : y ∈ f ∨ y = x := by
  unfold raStep at h
  split at h
  · rcases List.mem_append.1 h with h | h
    · exact .inl h
    · simp at h; exact .inr h
  · exact .inl h
theorem raOf_take {l : Nat} {zs : List Nat} {k : Nat} (hk : k < zs.length) : raOf l (zs.take (k + 1)) = raStep l (raOf l (zs.take k)) (at0 zs k) := by
  unfold raOf
  rw [List.take_succ_eq_append_getElem hk, List.foldl_append, at0_get hk]
  rfl
theorem raOf_sub {l : Nat} {zs : List Nat} : ∀ y ∈ raOf l zs, y ∈ zs := by
  have key : ∀ (zs f : List Nat) (y : Nat), y ∈ zs.foldl (raStep l) f → y ∈ f ∨ y ∈ zs := by
    intro zs
    induction zs with
    | nil => intro f y hy; exact .inl hy
    | cons z t ih =>
      intro f y hy
      rcases ih _ y hy with h | h
      · rcases raStep_mem h with h | h
        · exact .inl h
        · exact .inr (by simp [h])
      · exact .inr (List.mem_cons_of_mem _ h)
  intro y hy
  rcases key zs [] y hy with h | h
  · cases h
  · exact h

theorem row_of_owns {w : World} {base : Nat} {v : Value} {zs : List Nat} (h : w.ownsRow base 36 1 v zs.length (zs.map encU)) : ∃ a cap, v = .slice a zs.length cap ∧ Row w a zs ∧ (zs.length ≤ cap) := by
  rcases h.2 with ⟨rfl, h0⟩ | ⟨g, cap, cur, rfl, _, hh, hn, _, _, ht⟩
  · exact ⟨none, 0, by rw [h0], .inl h0, by omega⟩
  · refine ⟨_, cap, rfl, .inr ⟨g, 0, rfl, (Array.getElem?_eq_some_iff.1 hh).1, fun i hi => ?_⟩, hn⟩
    rw [Nat.zero_add, cell_of_row _ _ _ _ _ _ hh]
    have h3 : (cur.toList.take (zs.length * 1))[i]? = (zs.map encU)[i]? := by rw [ht]
    rw [List.getElem?_take_of_lt (by omega)] at h3
    rw [← Array.getElem?_toList, h3]
    have := map_at0 (q := .u64) hi []
    rw [List.append_nil] at this
    exact this

theorem own_ge {w : World} {base e size n j : Nat} {v : Value} {xs : List Value} (h : w.ownsRow base e size v n xs) (hj : v.ownBlock = some j) : base ≤ j := by
  rcases h.2 with ⟨rfl, _⟩ | ⟨g, cap, cur, rfl, hb, _⟩
  · cases hj
  · cases hj; exact hb

set_option maxHeartbeats 1000000 in
theorem rightAbove_any (l : Nat) (a : Option Addr) (cap : Nat) (zs : List Nat) (w : World) (hl64 : W64 l) (hr : Row w a zs) (h64 : All64 zs) (hl : 8 * zs.length ≤ 70368744177664) :
    Calls Try.prog 22 #[.int .u64 (l : Int), .slice a zs.length cap] w fun e w' => (∃ v, e = .returned v ∧ w'.ownsRow w.heap.size 36 1 v (raOf l zs).length ((raOf l zs).map encU)) ∧ Below w.heap.size w w' := by
  obtain ⟨i0, hi, hz0, hz1, hz2⟩ := info_parts infoLab
  have hl63 : (zs.length : Int) ≤ 9223372036854775807 := by omega
  go_enter Try.func22, Try.ntmps22
  go_wp2
  go_loopw [5, 11] (fun v i wr => ∃ k : Nat, k ≤ zs.length ∧ i = .int .i64 k ∧ wr.ownsRow w.heap.size 36 1 v (raOf l (zs.take k)).length ((raOf l (zs.take k)).map encU) ∧ Below w.heap.size w wr) (fun _ i _ => zs.length - (intOf i).toNat)
  case atStart => exact ⟨0, by omega, rfl, World.ownsRow_nil _ _ _ _, Below.refl _ _⟩
  case round =>
    obtain ⟨k, hk, rfl, hown, hbl⟩ := hrel
    by_cases hlt : k < zs.length
    · obtain ⟨b, o, rfl, hbw, hcc⟩ := (hr.below hbl).here hlt
      have hck := hcc k hlt
      clear hcc
      obtain ⟨z, hz⟩ : ∃ z, z = at0 zs k := ⟨_, rfl⟩
      have hz64 : W64 z := hz ▸ h64.at k
      have hsucc := raOf_take (l := l) hlt
      have hlen := raOf_len l (zs.take k)
      have h64k : All64 (raOf l (zs.take k)) := fun y hy => h64 y (List.mem_of_mem_take (raOf_sub y hy))
      rw [← hz] at hck hsucc
      clear hz
      simp only [List.length_take] at hlen
      generalize raOf l (zs.take k) = F at *
      have HS : Hid (raOf l (zs.take (k + 1)) = raStep l F z) := hsucc
      clear hsucc
      have hF : F.length ≤ zs.length := by omega
      obtain ⟨fa, fcap, hv, hfr, hfc⟩ := row_of_owns hown
      have HOWN : Hid (wr.ownsRow w.heap.size 36 1 (.slice fa F.length fcap) F.length (F.map encU)) := hv ▸ hown
      rw [hv]
      clear hv hown
      have hnb : wr.cell? ⟨b, o + k, none⟩ = some (.int .u64 (z : Int)) := hck
      have hbox : (wr.alloc (.cells #[.int .u64 (z : Int)] 36)).cell? ⟨wr.heap.size, 0, none⟩ = some (.int .u64 (z : Int)) := by rw [cell_of_row _ _ _ _ _ _ (heap_alloc_new wr _)]; rfl
      have hfr2 : Row (wr.alloc (.cells #[.int .u64 (z : Int)] 36)) fa F := hfr.below ((Below.refl _ _).alloc (Nat.le_refl _) _)
      cases h1 : lq l z
      · have HST : Hid (raStep l F z = F) := by unfold Hid raStep; rw [h1]; rfl
        go_wp2_with (go_at_call 27; refine (leq_any _ _ _ hl64 hz64).mono ?_; rintro e w' ⟨rfl, rfl⟩)
        go_roundw
        case rel => exact ⟨k + 1, by omega, by go_num, by rw [HS.out, HST.out]; exact HOWN.out.alloc _, hbl.alloc hbl.size _⟩
        case measure => simp [intOf]; omega
      · have hcf := containsFunc_any fa fcap F z wr.heap.size (wr.alloc (.cells #[.int .u64 (z : Int)] 36)) hfr2 h64k (by unfold maxLen; omega) hz64 hbox
        cases h2 : anyLq F z
        · have HST : Hid (raStep l F z = F ++ [z]) := by unfold Hid raStep; rw [h1, h2]; rfl
          have hn63 : F.length + 1 ≤ maxLen := by unfold maxLen; omega
          have hbs := hbl.size
          have how := HOWN.out
          have hone : ∀ u ∈ [Value.int .u64 (z : Int)], u.oneCell' = true := by simp [Value.oneCell']
          rw [h2] at hcf
          clear hfr hfr2 h64k
          go_wp2_with (first | (go_at_call 27; refine (leq_any _ _ _ hl64 hz64).mono ?_; rintro e w' ⟨rfl, hq⟩; have hq2 := hq.symm; subst hq2) | (go_at_call 37; refine hcf.mono ?_; rintro e w' ⟨rfl, rfl⟩) | (at_builtin; refine wpList_append_own_at _ rfl _ _ 22 rfl w.heap.size 36 i0 (.int .u64 0) 1 8 Try.underlying22 hi hz0 hz1 hz2 rfl (by omega) _ _ _ rfl ((how.alloc _).alloc _) ⟨wr.heap.size + 1, 0, none⟩ 1 1 [.int .u64 (z : Int)] rfl rfl (by have h9 := cell_one_new (wr.alloc (.cells #[.int .u64 (z : Int)] 36)) (.int .u64 (z : Int)) 36; simp only [World.size_alloc] at h9; exact h9) hone hn63 (by omega) (by simp; omega) ?_; intro v4 w4 hown4 hgrow4 hnil4 hat4))
          have hg5 : ((wr.alloc (.cells #[.int .u64 (z : Int)] 36)).alloc (.cells #[.int .u64 (z : Int)] 36)).grownBy w4 (Value.slice fa F.length fcap).ownBlock := hgrow4
          have hb2 : Below w.heap.size w ((wr.alloc (.cells #[.int .u64 (z : Int)] 36)).alloc (.cells #[.int .u64 (z : Int)] 36)) := (hbl.alloc hbs _).alloc (by simp; omega) _
          go_roundw
          case rel => exact ⟨k + 1, by omega, by go_num, by rw [HS.out, HST.out]; simpa [encU] using hown4, hb2.grown hg5 hb2.size (fun j e => own_ge how e)⟩
          case measure => simp [intOf]; omega
        · have HST : Hid (raStep l F z = F) := by unfold Hid raStep; rw [h1, h2]; rfl
          rw [h2] at hcf
          go_wp2_with (first | (go_at_call 27; refine (leq_any _ _ _ hl64 hz64).mono ?_; rintro e w' ⟨rfl, hq⟩; have hq2 := hq.symm; subst hq2) | (go_at_call 37; refine hcf.mono ?_; rintro e w' ⟨rfl, rfl⟩))
          go_roundw
          case rel => exact ⟨k + 1, by omega, by go_num, by rw [HS.out, HST.out]; exact HOWN.out.alloc _, hbl.alloc hbl.size _⟩
          case measure => simp [intOf]; omega
    · go_wp2
      go_ret
      have he : k = zs.length := by omega
      subst he
      rw [List.take_length] at hown
      exact ⟨⟨_, rfl, hown⟩, hbl⟩


set_option maxHeartbeats 400000 in
theorem clone_any (a : Option Addr) (cap : Nat) (zs : List Nat) (w : World) (hr : Row w a zs) (hl : 8 * zs.length ≤ 70368744177664) (hnil : a = none → zs.length = 0 ∧ cap = 0) :
    Calls Try.prog 33 #[.slice a zs.length cap] w fun e w' => (∃ v, e = .returned v ∧ w'.ownsRow w.heap.size 36 1 v zs.length (zs.map encU)) ∧ Below w.heap.size w w' := by
  obtain ⟨i0, hi, hz0, hz1, hz2⟩ := info_parts infoLab
  have hn1 := fun (w : World) (a : Option Addr) (n c : Nat) => Lib.run_eql_slice_nil (P := Try.prog) w 22 36 a n c 0 0 Try.underlying22
  cases a with
  | none =>
    obtain ⟨h1, h2⟩ := hnil rfl
    rw [h1, h2]
    go_enter Try.func33, Try.ntmps33
    go_wp2
    go_ret
    refine ⟨⟨_, rfl, ?_⟩, Below.refl _ _⟩
    rw [List.eq_nil_of_length_eq_zero h1]
    exact World.ownsRow_nil _ _ _ _
  | some ad =>
    go_enter Try.func33, Try.ntmps33
    have hnews : ∀ j u, (zs.map encU)[j]? = some u → (w.alloc (.cells #[] 36)).cell? (ad.add j) = some u := fun j u hu => by
      have hj : j < zs.length := by have := (List.getElem?_eq_some_iff.1 hu).1; simpa using this
      obtain ⟨b, o, e, hb, hc⟩ := hr.here hj
      cases e
      have hb2 : Below w.heap.size w (w.alloc (.cells #[] 36)) := (Below.refl _ _).alloc (Nat.le_refl _) _
      rw [Addr.add_lit, hb2.cell (p := ⟨b, o + j, none⟩) hb, hc j hj]
      have := map_at0 (q := .u64) hj []
      rw [List.append_nil] at this
      exact this.symm.trans hu
    have hone : ∀ u ∈ zs.map encU, u.oneCell' = true := fun u hu => by
      obtain ⟨z, _, rfl⟩ := List.mem_map.1 hu
      rfl
    have hn63 : 0 + zs.length ≤ maxLen := by unfold maxLen; omega
    have hown0 : (w.alloc (.cells #[] 36)).ownsRow w.heap.size 36 1 (.slice (some ⟨w.heap.size, 0, none⟩) 0 0) 0 [] := ⟨rfl, .inr ⟨_, _, _, rfl, Nat.le_refl _, heap_alloc_new w _, Nat.le_refl _, by unfold maxLen; omega, rfl, rfl⟩⟩
    have hlm : (zs.map encU).length = zs.length * 1 := by simp
    clear hr
    go_wp2_with (first | (at_builtin; refine wpList_append_own_at _ rfl _ _ 22 rfl w.heap.size 36 i0 (.int .u64 0) 1 8 Try.underlying22 hi hz0 hz1 hz2 rfl (by omega) _ _ _ rfl hown0 ad zs.length cap (zs.map encU) rfl hlm hnews hone hn63 (by omega) (by simp) ?_; intro v4 w4 hown4 hgrow4 hnil4 hat4))
    go_ret
    have hg5 : (w.alloc (.cells #[] 36)).grownBy w4 (some w.heap.size) := hgrow4
    exact ⟨⟨v4, rfl, by simpa using hown4⟩, ((Below.refl _ _).alloc (Nat.le_refl _) _).grown hg5 (by simp) (fun j e => by cases e; exact Nat.le_refl _)⟩

set_option maxHeartbeats 400000 in
theorem compact_any (a : Option Addr) (cap : Nat) (zs : List Nat) (w : World) (hr : Row w a zs) (hl : zs.length ≤ maxLen) (hne : ∀ i, i + 1 < zs.length → at0 zs i < at0 zs (i + 1)) :
    Calls Try.prog 35 #[.slice a zs.length cap] w fun e w' => e = .returned (.slice a zs.length cap) ∧ ∃ q, w' = w.drewN q := by
  unfold maxLen at hl
  have hz0 : ∃ q, w = w.drewN q := ⟨0, rfl⟩
  by_cases h2 : zs.length < 2
  · go_enter Try.func35, Try.ntmps35
    go_wp2
    go_ret
    exact ⟨rfl, hz0⟩
  · go_enter Try.func35, Try.ntmps35
    go_wp2
    go_loopw [3] (fun i wr => ∃ k m : Nat, 1 ≤ k ∧ k ≤ zs.length ∧ i = .int .i64 k ∧ wr = w.drewN m) (fun i _ => zs.length - (intOf i).toNat)
    case atStart => exact ⟨1, 0, by omega, by omega, rfl, rfl⟩
    case round =>
      obtain ⟨k, m, hk1, hk, rfl, hwr⟩ := hrel
      by_cases hlt : k < zs.length
      · have hbl : Below w.heap.size w wr := by rw [hwr]; exact below_drewN (Below.refl _ _) _
        obtain ⟨b, o, rfl, _, hc⟩ := (hr.below hbl).here hlt
        have hck := hc k hlt
        have hck1 := hc (k - 1) (by omega)
        have hlt2 := hne (k - 1) (by omega)
        have ek : k - 1 + 1 = k := by omega
        rw [ek] at hlt2
        clear hc ek
        generalize at0 zs k = z at *
        generalize at0 zs (k - 1) = y at *
        have hi1 : (k : Int) < (zs.length : Int) := by omega
        have hi2 : (k : Int) - 1 < (zs.length : Int) := by omega
        have hi3 : (0 : Int) ≤ (k : Int) - 1 := by omega
        have hd : ((z : Int) == (y : Int)) = false := by simp; omega
        have HW : Hid (wr = w.drewN m) := hwr
        clear hwr hbl
        go_wp2
        go_quiet (fail)
        go_wp2
        go_roundw
        case rel => exact ⟨k + 1, m + nq, by omega, by omega, by go_num, by rw [HW.out, World.drewN_drewN]⟩
        case measure => simp [intOf]; omega
      · go_wp2
        go_ret
        exact ⟨rfl, m, rfl⟩


/-- distinct gives each label of zs once, rising, in memory of its own. -/
def DistinctOk (zs : List Nat) : Prop := ∀ (a : Option Addr) (cap : Nat) (w : World), Row w a zs → (a = none → zs.length = 0 ∧ cap = 0) →
  Calls Try.prog 21 #[.slice a zs.length cap] w fun e w' => (∃ v C, e = .returned v ∧ (∀ x, x ∈ C ↔ x ∈ zs) ∧ (∀ i, i + 1 < C.length → at0 C i < at0 C (i + 1)) ∧ C.length ≤ zs.length ∧
    w'.ownsRow w.heap.size 36 1 v C.length (C.map encU)) ∧ Below w.heap.size w w'

theorem strict_of_sorted {C : List Nat} (hn : C.Nodup) (hs : sortedR C 0 C.length) : ∀ i, i + 1 < C.length → at0 C i < at0 C (i + 1) := fun i hi => by
  have h1 := hs i (i + 1) (by omega) (by omega) hi
  have h2 : at0 C i ≠ at0 C (i + 1) := fun e => by
    rw [← at0_get (by omega : i < C.length), ← at0_get hi] at e
    have := (List.getElem_inj hn).1 e
    omega
  omega

set_option maxHeartbeats 400000 in
theorem distinct_nodup (N : Nat) (hN : SortsL N) (zs : List Nat) (hn : zs.Nodup) (hlN : zs.length ≤ N) (hl : 8 * zs.length ≤ 70368744177664) : DistinctOk zs := by
  intro a cap w hr hnil
  have hmx : zs.length ≤ maxLen := by unfold maxLen; omega
  go_enter Try.func21, Try.ntmps21
  go_wp2_with fail
  refine (clone_any a cap zs w hr hl hnil).mono ?_
  rintro e w1 ⟨⟨v, rfl, hown⟩, hb1⟩
  rcases hown.2 with ⟨rfl, hz⟩ | ⟨g, cp, cur, rfl, _⟩
  · have hzs : zs = [] := List.eq_nil_of_length_eq_zero hz
    subst hzs
    go_wp2_with fail
    refine (sort_none none 0 _).mono ?_
    rintro e w2 ⟨rfl, rfl⟩
    go_wp2_with fail
    refine (compact_any none 0 [] _ (.inl rfl) (by unfold maxLen; simp) (fun i hi => by simp at hi)).mono ?_
    rintro e w3 ⟨rfl, q, rfl⟩
    go_wp2
    go_ret
    exact ⟨⟨_, [], rfl, fun x => Iff.rfl, fun i hi => by simp at hi, Nat.le_refl _, World.ownsRow_nil _ _ _ _⟩, below_drewN hb1 _⟩
  · obtain ⟨rest, hB, hnn, hr2, hcp, hcm, hbs⟩ := blk_of_row hown
    have hcs := hN g zs.length cp zs rest w1 hB rfl hlN
    clear hown hB
    go_wp2_with fail
    refine hcs.mono ?_
    rintro e w2 ⟨rfl, C, hp, hso, hB2, hg2⟩
    have hle : C.length = zs.length := hp.length_eq
    have hrow2 := row_of_blk (base := w.heap.size) hB2 hle hr2 hcp hcm hbs
    have hst := strict_of_sorted (hp.nodup_iff.2 hn) (by rw [hle]; exact hso)
    have hrr : Row w2 (some ⟨g, 0, none⟩) C := .inr ⟨g, 0, rfl, hB2.lt, fun i hi => by rw [Nat.zero_add]; exact hB2.cell hi⟩
    have hb2 := hb1.grown hg2 hb1.size (fun j e => by cases e; exact hbs)
    have hcc := compact_any (some ⟨g, 0, none⟩) cp C w2 hrr (by rw [hle]; exact hmx) hst
    rw [hle] at hcc
    clear hcs hB2 hrr
    go_wp2_with fail
    refine hcc.mono ?_
    rintro e w3 ⟨rfl, q, rfl⟩
    go_wp2
    go_ret
    refine ⟨⟨_, C, rfl, fun x => hp.mem_iff, hst, by omega, ?_⟩, below_drewN hb2 _⟩
    rw [hle]
    exact hrow2.kept (grown_drewN (World.grownBy.refl _ none) _) (.inr (by simp [Value.ownBlock]))

end Go.Proofs.Ythclmkmajlinhab
