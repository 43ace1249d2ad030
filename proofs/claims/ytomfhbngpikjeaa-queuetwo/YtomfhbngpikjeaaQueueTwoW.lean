/- The walk of the law QueueTwo. -/
import Derived.Test.YtomfhbngpikjeaaQuTwo2
namespace Go.Proofs.Ytomfhbngpikjeaa.queueTwo
open Go.RowKit

set_option maxRecDepth 100000 in
set_option maxHeartbeats 4000000 in
theorem walk (x : Int) (_ : -9223372036854775808 ≤ x ∧ x ≤ 9223372036854775807) (y : Int) (_ : -9223372036854775808 ≤ y ∧ y ≤ 9223372036854775807) (a : Option Addr) (n cap : Nat) (A : Nat → Sp) (w : World) (hcame : CameT w a n A) :
    Calls Try.prog 5 #[.int .i64 x, .int .i64 y, .slice a n cap] w fun e w' => e = .returned (.bool true) ∧ Below w.heap.size w w' := by
  have hrow := hcame.row
  have hnl := hcame.size
  clear hcame
  obtain ⟨i1, hi1, hz10, hz11, hz12⟩ := info_parts infoW2
  obtain ⟨i2, hi2, hz20, hz21, hz22⟩ := info_parts infoP2
  obtain ⟨Z, hZ⟩ : ∃ Z : Nat → Int, Z = fun t => if t = 0 then x else y := ⟨_, rfl⟩
  obtain ⟨N, hN⟩ : ∃ N : Nat → Nat, N = fun t => (Z t % 8).toNat := ⟨_, rfl⟩
  have hNb : ∀ t, bits .and .i64 (Z t) 7 = (N t : Int) := fun t => by rw [i64_and7, hN]; simp only; omega
  have hN7 : ∀ t, N t ≤ 7 := fun t => by rw [hN]; simp only; omega
  have HNB := hide_it hNb
  clear hN hNb
  go_enter Try.func5, Try.ntmps5
  go_wp2_with fail
  refine (fixed_any w).mono ?_
  rintro e w1 ⟨rfl, hb1⟩
  obtain ⟨W2, hW2⟩ : ∃ W2, W2 = ((w1.alloc (.cells #[.int .i64 x, .int .i64 y] 3)).alloc (.cells #[] 24)).alloc (.cells #[] 27) := ⟨_, rfl⟩
  have hB2 : Below w1.heap.size w1 W2 := by rw [hW2]; exact (((Below.refl _ _).alloc (Nat.le_refl _) _).alloc (by simp) _).alloc (by simp; omega) _
  have hs1 := hb1.size
  have hBB : Below w.heap.size w W2 := hb1.trans (hB2.mono hs1)
  have hz2 : W2.heap.size = w1.heap.size + 1 + 1 + 1 := by rw [hW2]; simp
  have hsz2 : W2.heap[w1.heap.size]? = some (.cells #[.int .i64 x, .int .i64 y] 3 (0, 0)) := by
    rw [hW2, Below.heap_alloc _ _ _ (by simp; omega), Below.heap_alloc _ _ _ (by simp)]; exact heap_alloc_new _ _
  have hpw : W2.heap[w1.heap.size + 1]? = some (.cells #[] 24 (0, 0)) := by
    rw [hW2, Below.heap_alloc _ _ _ (by simp)]
    have := heap_alloc_new (w1.alloc (.cells #[.int .i64 x, .int .i64 y] 3)) (.cells #[] 24)
    simpa using this
  have hpq : W2.heap[w1.heap.size + 1 + 1]? = some (.cells #[] 27 (0, 0)) := by
    rw [hW2]
    have := heap_alloc_new ((w1.alloc (.cells #[.int .i64 x, .int .i64 y] 3)).alloc (.cells #[] 24)) (.cells #[] 27)
    simpa using this
  have hmk : Mk w W2 0 (.slice (some ⟨w1.heap.size + 1, 0, none⟩) 0 0) (.slice (some ⟨w1.heap.size + 1 + 1, 0, none⟩) 0 0) N (fun _ => 0) :=
    ⟨⟨rfl, .inr ⟨_, 0, #[], rfl, by omega, hpw, by omega, by simp [maxLen], rfl, rfl⟩⟩, ⟨rfl, .inr ⟨_, 0, #[], rfl, by omega, hpq, by omega, by simp [maxLen], rfl, rfl⟩⟩, fun t ht => by omega, fun t u ht => by omega, fun t ht => by omega⟩
  have HMK := hide_it hmk
  have HBB := hide_it hBB
  have HSZ := hide_it (show W2.heap[w1.heap.size]? = some (.cells #[.int .i64 x, .int .i64 y] 3 (0, 0)) from hsz2)
  have HW2 := hide_it hW2
  have hps : w.heap.size ≤ w1.heap.size := hs1
  clear hb1 hB2 hBB hz2 hsz2 hpw hpq hmk hW2 hs1
  go_wp2_with fail
  rw [← HW2.out]
  obtain ⟨ps, hps0⟩ : ∃ ps, ps = w1.heap.size := ⟨_, rfl⟩
  rw [← hps0] at HMK HSZ hps ⊢
  clear HW2 hps0
  go_loopw [8, 9, 29] (fun vw vq i wr => ∃ k : Nat, k ≤ 2 ∧ i = .int .i64 k ∧ Hid (∃ b, Mk w wr k vw vq N b) ∧ Hid (wr.heap[ps]? = some (.cells #[.int .i64 x, .int .i64 y] 3 (0, 0))) ∧ Hid (Below w.heap.size w wr)) (fun _ _ i _ => 2 - (intOf i).toNat)
  case atStart => exact ⟨0, by omega, rfl, ⟨_, HMK.out⟩, HSZ, HBB⟩
  case round =>
    obtain ⟨k, hk, rfl, HM, HS, HB⟩ := hrel
    clear HMK HBB HSZ
    obtain ⟨b, hm⟩ := HM.out
    have hbl := HB.out
    have hsz := hbl.size
    clear HM HB
    by_cases hlt : k < 2
    · have hki : (k : Int) < 2 := by omega
      have hw1 : IntKind.i64.wrap ((k : Int) + 1) = (k : Int) + 1 := i64_in (by omega) (by omega)
      have hck : wr.cell? ⟨ps, k, none⟩ = some (.int .i64 (Z k)) := by
        rw [cell_of_row _ _ _ _ _ _ HS.out, hZ]
        match k, hlt with
        | 0, _ => rfl
        | 1, _ => rfl
      have hzb := HNB.out k
      obtain ⟨zk, hzk⟩ : ∃ zk, zk = Z k := ⟨_, rfl⟩
      rw [← hzk] at hck hzb
      have hNk := hN7 k
      have hrn := rnew_any (N k : Int) wr
      have hn0 : newE (N k : Int) = 0 := by unfold newE; rw [if_neg (by omega), if_neg (by omega)]
      rw [if_pos hn0, hn0] at hrn
      obtain ⟨M, hM⟩ : ∃ M, M = N k := ⟨_, rfl⟩
      rw [← hM] at hzb hrn hNk
      have HM' := hide_it hM
      have HMM := hide_it hm
      clear hzk hn0 hM hm hrow hZ
      go_wp2_with fail
      refine hrn.mono ?_
      rintro e w5 ⟨rfl, hb5⟩
      obtain ⟨W6, hW6⟩ : ∃ W6, W6 = w5.alloc (.cells #[.int .i64 (M : Int), .slice none 0 0] 24) := ⟨_, rfl⟩
      have hn6 : W6.heap[w5.heap.size]? = some (.cells #[.int .i64 (M : Int), .slice none 0 0] 24 (0, 0)) := by rw [hW6]; exact heap_alloc_new _ _
      have hs5 := hb5.size
      have hB6 : Below wr.heap.size wr W6 := by rw [hW6]; exact hb5.alloc hs5 _
      have hnew := newS_any M W6 (by omega)
      have HN6 := hide_it hn6
      have HB6 := hide_it hB6
      have HW6 := hide_it hW6
      clear hn6 hB6 hb5 hrn hW6
      go_wp2_with fail
      rw [← HW6.out]
      refine hnew.mono ?_
      rintro e w7 ⟨rfl, hq7, hb7⟩
      obtain ⟨c, hc⟩ : ∃ c, c = W6.heap.size := ⟨_, rfl⟩
      rw [← hc] at hq7 ⊢
      have hw5l : w5.heap.size < W6.heap.size := (Array.getElem?_eq_some_iff.1 HN6.out).1
      have hn7 := (hb7.block w5.heap.size hw5l).trans HN6.out
      have d0 := cell_of_row _ _ 0 _ _ _ hn7
      have d1 := cell_of_row _ _ 1 _ _ _ hn7
      simp only [List.getElem?_toArray, List.getElem?_cons_zero, List.getElem?_cons_succ] at d0 d1
      have hB7 : Below wr.heap.size wr w7 := HB6.out.trans (hb7.mono HB6.out.size)
      have hm7 := HMM.out.below hB7
      have hsb7 := hB7.size
      have hcg : w.heap.size ≤ c := by have := HB6.out.size; omega
      have hcw : wr.heap.size ≤ c := by have := HB6.out.size; omega
      have hbt : ∀ t, t < k → b t ≠ c := fun t ht => by have := (HMM.out.qu t ht).lt.1; omega
      have hps7 := (hB7.block ps (Array.getElem?_eq_some_iff.1 HS.out).1).trans HS.out
      have HM7 := hide_it hm7
      have HQ7 := hide_it hq7
      have HB7 := hide_it hB7
      have HBT := hide_it hbt
      have HPS := hide_it hps7
      have hpl : ps < wr.heap.size := (Array.getElem?_eq_some_iff.1 HS.out).1
      clear hq7 hb7 hc hn7 hB7 hm7 hnew hbt hps7
      go_wp2_with (first |
        (at_builtin; refine wpList_append_own_at _ rfl _ _ 46 rfl w.heap.size 24 i1 (.agg #[.int .i64 0, .slice none 0 0]) 2 32 Try.underlying46 hi1 hz10 hz11 hz12 rfl (by decide) u8 k (wantC N k) rfl (HM7.out.rw_.alloc _) ⟨w7.heap.size, 0, none⟩ 1 1 [.int .i64 (M : Int), .slice none 0 0] rfl rfl (cells_new w7 [.int .i64 (M : Int), .slice none 0 0] _) (by simp [Value.oneCell']) (by unfold maxLen; omega) (by omega) (by simp; omega) ?_; intro v8 w8 hown8 hg8 _ _; have hq8 := HM7.out.between hg8; have HO8 := hide_it hown8; have HG8 := hide_it hg8; have HQ8 := hide_it hq8; have hs8 := hg8.size; simp at hs8; clear hown8 hg8 hq8 d0 d1) |
        (at_builtin; refine wpList_append_own_at _ rfl _ _ 47 rfl w.heap.size 27 i2 (.pointer none) 1 8 Try.underlying47 hi2 hz20 hz21 hz22 rfl (by decide) u9 k (quC b k) rfl (HQ8.out.alloc _) ⟨w8.heap.size, 0, none⟩ 1 1 [.pointer (some ⟨c, 0, none⟩)] rfl rfl (cells_new w8 [.pointer (some ⟨c, 0, none⟩)] _) (by simp [Value.oneCell']) (by unfold maxLen; omega) (by omega) (by simp; omega) ?_; intro v9 w9 hown9 hg9 _ _; have HO9 := hide_it hown9; have HG9 := hide_it hg9; clear hown9 hg9))
      go_roundw
      case rel =>
        rw [HM'.out] at HQ7 HO8
        obtain ⟨z1, z2, z3⟩ := HM7.out.more (by omega) HQ7.out HBT.out hcg HO8.out HG8.out HO9.out HG9.out
        have z7 := hbl.trans (HB7.out.mono hsz)
        exact ⟨k + 1, by omega, by go_num, ⟨_, z1⟩, z3 ps _ _ (by decide) (by decide) HPS.out, z7.trans z2⟩
      case measure => simp [intOf]; omega
    · have hk2 : k = 2 := by omega
      rw [hk2] at hm
      obtain ⟨p, cp, q, cq, hvw, hvq, ht0⟩ := hm.two
      subst hvw
      subst hvq
      have HT0 := hide_it ht0
      have HB0 := hide_it hbl
      clear hm ht0 hbl HS hk2 hsz
      go_wp2_with fail
      go_loopw [62] (fun i wr => ∃ m : Nat, m ≤ n ∧ i = .int .i64 m ∧ Hid (∃ g v xs, Two w wr p q N b g v xs) ∧ Hid (Below w.heap.size w wr)) (fun i _ => n - (intOf i).toNat)
      case atStart => exact ⟨0, Nat.zero_le _, rfl, ⟨_, _, _, HT0.out⟩, HB0⟩
      case round =>
        obtain ⟨m, hm, rfl, HT, HB⟩ := hrel
        clear HT0 HB0
        obtain ⟨g, v, xs, ht⟩ := HT.out
        have hbl := HB.out
        have hsz := hbl.size
        clear HT HB
        by_cases hlt2 : m < n
        · have hmi : (m : Int) < (n : Int) := by omega
          have hw1 : IntKind.i64.wrap ((m : Int) + 1) = (m : Int) + 1 := i64_in (by omega) (by omega)
          obtain ⟨t, htm⟩ : ∃ t, t = m % 2 := ⟨_, rfl⟩
          have ht2 : t < 2 := by omega
          have hmod : (m : Int).tmod 2 = (t : Int) := by rw [Int.tmod_eq_emod_of_nonneg (by omega)]; omega
          have hti : (t : Int) < 2 := by omega
          obtain ⟨rb, ro, rfl, hrl, r0, r1⟩ := hrow.here hlt2
          have s0 := (hbl.cell (p := ⟨rb, ro + m * 2, none⟩) hrl).trans r0
          have s1 := (hbl.cell (p := ⟨rb, ro + m * 2 + 1, none⟩) hrl).trans r1
          obtain ⟨Kd, hK⟩ : ∃ Kd, Kd = (A m).k := ⟨_, rfl⟩
          obtain ⟨S, hS⟩ : ∃ S, S = (A m).s := ⟨_, rfl⟩
          rw [← hK] at s0
          rw [← hS] at s1
          obtain ⟨Wr, hWr⟩ : ∃ Wr, Wr = wr.alloc (.cells #[.int .i64 Kd, .string S] 38) := ⟨_, rfl⟩
          have hbr : Below wr.heap.size wr Wr := by rw [hWr]; exact (Below.refl _ _).alloc (Nat.le_refl _) _
          have hst : Wr.heap[wr.heap.size]? = some (.cells #[.int .i64 Kd, .string S] 38 (0, 0)) := by rw [hWr]; exact heap_alloc_new _ _
          have htr := ht.below hbr
          have hblr : Below w.heap.size w Wr := hbl.trans (hbr.mono hsz)
          obtain ⟨va, vc, hv, _⟩ := (htr.both t ht2).shape
          obtain ⟨y0, y1, y2, y3, y4, y5, y6⟩ := htr.cells ht2
          have hbg := (ht.both t ht2).qu.lt
          obtain ⟨L, hL⟩ : ∃ L, L = (xs t).length := ⟨_, rfl⟩
          rw [← hL] at hv
          obtain ⟨B, hB⟩ : ∃ B, B = b t := ⟨_, rfl⟩
          obtain ⟨M, hM⟩ : ∃ M, M = N t := ⟨_, rfl⟩
          have hdo : ∀ W', Below Wr.heap.size Wr W' → Calls Try.prog 15 #[.pointer (some ⟨B, 0, none⟩), .agg #[.int .i64 (M : Int), .slice va L vc], .agg #[.int .i64 Kd, .string S]] W' fun e w' => Did W' w' (b t) (g t) (N t) w.heap.size (v t) (nxt (N t) (xs t) Kd S) e := fun W' hb' => by
            rw [hB, hM, ← hv]
            exact does_any (b t) (g t) (N t) w.heap.size (v t) (xs t) Kd S W' ((htr.both t ht2).below hb') (Nat.le_trans hblr.size hb'.size)
          rw [← hM] at y0
          rw [hv] at y1
          rw [← hB] at y2
          have x0 := cell_of_row _ _ 0 _ _ _ hst
          have x1 := cell_of_row _ _ 1 _ _ _ hst
          simp only [List.getElem?_toArray, List.getElem?_cons_zero, List.getElem?_cons_succ] at x0 x1
          have hdo1 := hdo (Wr.drewN 1) (below_drewN (Below.refl _ _) 1)
          have hdo2 := hdo ((Wr.drewN 1).alloc (.cells #[.int .i64 0, .slice none 0 0] 24)) ((below_drewN (Below.refl _ _) 1).alloc (by simp) _)
          have HTR := hide_it htr
          have HBR := hide_it hblr
          have HWr := hide_it hWr
          have HST := hide_it hst
          have HHB := hide_it hB
          have HHM := hide_it hM
          have hWs : wr.heap.size < Wr.heap.size := (Array.getElem?_eq_some_iff.1 hst).1
          clear hK hS ht hbr hbl htr hblr r0 r1 hWr hst hB hM hL hv hdo htm hrow
          go_wp2_with fail
          rw [← HWr.out]
          refine wp_region_held_drew (S := (fun w' => w'.heap[p]? = Wr.heap[p]? ∧ w'.heap[q]? = Wr.heap[q]? ∧ w'.heap[wr.heap.size]? = Wr.heap[wr.heap.size]?)) (by kernel_rfl) ?_ (fun hHeld => ?_)
          · exact ⟨rfl, rfl, rfl⟩
          refine take_on (i := 0) (v := ?_) rfl rfl (by kernel_rfl) (by kernel_rfl) (by kernel_rfl) (fun _ _ _ h => h) rfl ?_ hHeld ?_
          rotate_left
          · (intro wq hSq; have q0 := (World.cell?_of_block (w := Wr) (a := ⟨p, t * 2, none⟩) hSq.1).trans y0; have q1 := (World.cell?_of_block (w := Wr) (a := ⟨p, t * 2 + 1, none⟩) hSq.1).trans y1; have q2 := (World.cell?_of_block (w := Wr) (a := ⟨q, t, none⟩) hSq.2.1).trans y2; have q3 := (World.cell?_of_block (w := Wr) (a := ⟨wr.heap.size, 0, none⟩) hSq.2.2).trans x0; have q4 := (World.cell?_of_block (w := Wr) (a := ⟨wr.heap.size, 1, none⟩) hSq.2.2).trans x1; go_simp <;> first | with_reducible rfl | rfl)
          simp only [Act.put, List.setIfInBounds_toArray, List.set_cons_zero, List.set_cons_succ]
          refine take_on (i := 1) (v := ?_) rfl rfl (by kernel_rfl) (by kernel_rfl) (by kernel_rfl) (fun _ _ _ h => h) rfl ?_ hHeld ?_
          rotate_left
          · (intro wq hSq; have q0 := (World.cell?_of_block (w := Wr) (a := ⟨p, t * 2, none⟩) hSq.1).trans y0; have q1 := (World.cell?_of_block (w := Wr) (a := ⟨p, t * 2 + 1, none⟩) hSq.1).trans y1; have q2 := (World.cell?_of_block (w := Wr) (a := ⟨q, t, none⟩) hSq.2.1).trans y2; have q3 := (World.cell?_of_block (w := Wr) (a := ⟨wr.heap.size, 0, none⟩) hSq.2.2).trans x0; have q4 := (World.cell?_of_block (w := Wr) (a := ⟨wr.heap.size, 1, none⟩) hSq.2.2).trans x1; go_simp <;> first | with_reducible rfl | rfl)
          simp only [Act.put, List.setIfInBounds_toArray, List.set_cons_zero, List.set_cons_succ]
          refine take_on (i := 2) (v := ?_) rfl rfl (by kernel_rfl) (by kernel_rfl) (by kernel_rfl) (fun _ _ _ h => h) rfl ?_ hHeld ?_
          rotate_left
          · (intro wq hSq; have q0 := (World.cell?_of_block (w := Wr) (a := ⟨p, t * 2, none⟩) hSq.1).trans y0; have q1 := (World.cell?_of_block (w := Wr) (a := ⟨p, t * 2 + 1, none⟩) hSq.1).trans y1; have q2 := (World.cell?_of_block (w := Wr) (a := ⟨q, t, none⟩) hSq.2.1).trans y2; have q3 := (World.cell?_of_block (w := Wr) (a := ⟨wr.heap.size, 0, none⟩) hSq.2.2).trans x0; have q4 := (World.cell?_of_block (w := Wr) (a := ⟨wr.heap.size, 1, none⟩) hSq.2.2).trans x1; go_simp <;> first | with_reducible rfl | rfl)
          simp only [Act.put, List.setIfInBounds_toArray, List.set_cons_zero, List.set_cons_succ]
          refine take_on (i := 3) (v := ?_) rfl rfl (by kernel_rfl) (by kernel_rfl) (by kernel_rfl) (fun _ _ _ h => h) rfl ?_ hHeld ?_
          rotate_left
          · (intro wq hSq; have q0 := (World.cell?_of_block (w := Wr) (a := ⟨p, t * 2, none⟩) hSq.1).trans y0; have q1 := (World.cell?_of_block (w := Wr) (a := ⟨p, t * 2 + 1, none⟩) hSq.1).trans y1; have q2 := (World.cell?_of_block (w := Wr) (a := ⟨q, t, none⟩) hSq.2.1).trans y2; have q3 := (World.cell?_of_block (w := Wr) (a := ⟨wr.heap.size, 0, none⟩) hSq.2.2).trans x0; have q4 := (World.cell?_of_block (w := Wr) (a := ⟨wr.heap.size, 1, none⟩) hSq.2.2).trans x1; go_simp <;> first | with_reducible rfl | rfl)
          simp only [Act.put, List.setIfInBounds_toArray, List.set_cons_zero, List.set_cons_succ]
          refine take_on (i := 4) (v := ?_) rfl rfl (by kernel_rfl) (by kernel_rfl) (by kernel_rfl) (fun _ _ _ h => h) rfl ?_ hHeld ?_
          rotate_left
          · (intro wq hSq; have q0 := (World.cell?_of_block (w := Wr) (a := ⟨p, t * 2, none⟩) hSq.1).trans y0; have q1 := (World.cell?_of_block (w := Wr) (a := ⟨p, t * 2 + 1, none⟩) hSq.1).trans y1; have q2 := (World.cell?_of_block (w := Wr) (a := ⟨q, t, none⟩) hSq.2.1).trans y2; have q3 := (World.cell?_of_block (w := Wr) (a := ⟨wr.heap.size, 0, none⟩) hSq.2.2).trans x0; have q4 := (World.cell?_of_block (w := Wr) (a := ⟨wr.heap.size, 1, none⟩) hSq.2.2).trans x1; go_simp <;> first | with_reducible rfl | rfl)
          simp only [Act.put, List.setIfInBounds_toArray, List.set_cons_zero, List.set_cons_succ]
          refine take_on (i := 5) (v := ?_) rfl rfl (by kernel_rfl) (by kernel_rfl) (by kernel_rfl) (fun _ _ _ h => h) rfl ?_ hHeld ?_
          rotate_left
          · (intro wq hSq; have q0 := (World.cell?_of_block (w := Wr) (a := ⟨p, t * 2, none⟩) hSq.1).trans y0; have q1 := (World.cell?_of_block (w := Wr) (a := ⟨p, t * 2 + 1, none⟩) hSq.1).trans y1; have q2 := (World.cell?_of_block (w := Wr) (a := ⟨q, t, none⟩) hSq.2.1).trans y2; have q3 := (World.cell?_of_block (w := Wr) (a := ⟨wr.heap.size, 0, none⟩) hSq.2.2).trans x0; have q4 := (World.cell?_of_block (w := Wr) (a := ⟨wr.heap.size, 1, none⟩) hSq.2.2).trans x1; go_simp <;> first | with_reducible rfl | rfl)
          simp only [Act.put, List.setIfInBounds_toArray, List.set_cons_zero, List.set_cons_succ]
          refine take_on (i := 6) (v := ?_) rfl rfl (by kernel_rfl) (by kernel_rfl) (by kernel_rfl) (fun _ _ _ h => h) rfl ?_ hHeld ?_
          rotate_left
          · (intro wq hSq; have q0 := (World.cell?_of_block (w := Wr) (a := ⟨p, t * 2, none⟩) hSq.1).trans y0; have q1 := (World.cell?_of_block (w := Wr) (a := ⟨p, t * 2 + 1, none⟩) hSq.1).trans y1; have q2 := (World.cell?_of_block (w := Wr) (a := ⟨q, t, none⟩) hSq.2.1).trans y2; have q3 := (World.cell?_of_block (w := Wr) (a := ⟨wr.heap.size, 0, none⟩) hSq.2.2).trans x0; have q4 := (World.cell?_of_block (w := Wr) (a := ⟨wr.heap.size, 1, none⟩) hSq.2.2).trans x1; go_simp <;> first | with_reducible rfl | rfl)
          simp only [Act.put, List.setIfInBounds_toArray, List.set_cons_zero, List.set_cons_succ]
          refine take_on (i := 7) (v := ?_) rfl rfl (by kernel_rfl) (by kernel_rfl) (by kernel_rfl) (fun _ _ _ h => h) rfl ?_ hHeld ?_
          rotate_left
          · (intro wq hSq; have q0 := (World.cell?_of_block (w := Wr) (a := ⟨p, t * 2, none⟩) hSq.1).trans y0; have q1 := (World.cell?_of_block (w := Wr) (a := ⟨p, t * 2 + 1, none⟩) hSq.1).trans y1; have q2 := (World.cell?_of_block (w := Wr) (a := ⟨q, t, none⟩) hSq.2.1).trans y2; have q3 := (World.cell?_of_block (w := Wr) (a := ⟨wr.heap.size, 0, none⟩) hSq.2.2).trans x0; have q4 := (World.cell?_of_block (w := Wr) (a := ⟨wr.heap.size, 1, none⟩) hSq.2.2).trans x1; go_simp <;> first | with_reducible rfl | rfl)
          simp only [Act.put, List.setIfInBounds_toArray, List.set_cons_zero, List.set_cons_succ]
          refine take_on (i := 8) (v := ?_) rfl rfl (by kernel_rfl) (by kernel_rfl) (by kernel_rfl) (fun _ _ _ h => h) rfl ?_ hHeld ?_
          rotate_left
          · (intro wq hSq; have q0 := (World.cell?_of_block (w := Wr) (a := ⟨p, t * 2, none⟩) hSq.1).trans y0; have q1 := (World.cell?_of_block (w := Wr) (a := ⟨p, t * 2 + 1, none⟩) hSq.1).trans y1; have q2 := (World.cell?_of_block (w := Wr) (a := ⟨q, t, none⟩) hSq.2.1).trans y2; have q3 := (World.cell?_of_block (w := Wr) (a := ⟨wr.heap.size, 0, none⟩) hSq.2.2).trans x0; have q4 := (World.cell?_of_block (w := Wr) (a := ⟨wr.heap.size, 1, none⟩) hSq.2.2).trans x1; go_simp <;> first | with_reducible rfl | rfl)
          simp only [Act.put, List.setIfInBounds_toArray, List.set_cons_zero, List.set_cons_succ]
          refine take_on (i := 9) (v := ?_) rfl rfl (by kernel_rfl) (by kernel_rfl) (by kernel_rfl) (fun _ _ _ h => h) rfl ?_ hHeld ?_
          rotate_left
          · (intro wq hSq; have q0 := (World.cell?_of_block (w := Wr) (a := ⟨p, t * 2, none⟩) hSq.1).trans y0; have q1 := (World.cell?_of_block (w := Wr) (a := ⟨p, t * 2 + 1, none⟩) hSq.1).trans y1; have q2 := (World.cell?_of_block (w := Wr) (a := ⟨q, t, none⟩) hSq.2.1).trans y2; have q3 := (World.cell?_of_block (w := Wr) (a := ⟨wr.heap.size, 0, none⟩) hSq.2.2).trans x0; have q4 := (World.cell?_of_block (w := Wr) (a := ⟨wr.heap.size, 1, none⟩) hSq.2.2).trans x1; go_simp <;> first | with_reducible rfl | rfl)
          simp only [Act.put, List.setIfInBounds_toArray, List.set_cons_zero, List.set_cons_succ]
          refine take_on (i := 10) (v := ?_) rfl rfl (by kernel_rfl) (by kernel_rfl) (by kernel_rfl) (fun _ _ _ h => h) rfl ?_ hHeld ?_
          rotate_left
          · (intro wq hSq; have q0 := (World.cell?_of_block (w := Wr) (a := ⟨p, t * 2, none⟩) hSq.1).trans y0; have q1 := (World.cell?_of_block (w := Wr) (a := ⟨p, t * 2 + 1, none⟩) hSq.1).trans y1; have q2 := (World.cell?_of_block (w := Wr) (a := ⟨q, t, none⟩) hSq.2.1).trans y2; have q3 := (World.cell?_of_block (w := Wr) (a := ⟨wr.heap.size, 0, none⟩) hSq.2.2).trans x0; have q4 := (World.cell?_of_block (w := Wr) (a := ⟨wr.heap.size, 1, none⟩) hSq.2.2).trans x1; go_simp <;> first | with_reducible rfl | rfl)
          simp only [Act.put, List.setIfInBounds_toArray, List.set_cons_zero, List.set_cons_succ]
          refine take_two (i := 11) (j := 15) rfl rfl (by kernel_rfl) (fun K hK => ?_) (fun K hK => ?_)
          · go_simp
            refine hdo1.mono ?_; rintro e w5 ⟨v5, g5, rfl, hg5, hb5, ho5, hn5⟩; obtain ⟨a5, c5, hv5, _⟩ := hb5.shape; obtain ⟨ys, hys⟩ : ∃ ys, ys = nxt (N t) (xs t) Kd S := ⟨_, rfl⟩; rw [← hys] at hb5 hv5; obtain ⟨Y, hY⟩ : ∃ Y, Y = ys.length := ⟨_, rfl⟩; rw [← hY] at hv5; subst hv5; have HB5 := hide_it hb5; have HO5 := hide_it ho5; have HG5 := hide_it hg5; have HN5 := hide_it hn5; have hoff := HTR.out.off t ht2; have hgl := (HTR.out.both t ht2).qu.lt; have hp5 := ho5.block p (by simp; omega) hoff.1 hoff.2.1; have hq5 := ho5.block q (by simp; omega) hoff.2.2.1 hoff.2.2.2; have hst5 := ho5.block wr.heap.size (by simp; omega) (by omega) (by omega); have hs5 := ho5.size; simp at hs5; clear hb5 ho5 hg5 hn5 hys hY hoff hgl
            try go_wp2_with fail
            refine hK.out _ _ ?_ (fun hHeld => ?_)
            · exact ⟨hp5, hq5, hst5⟩
            clear hK K
            try simp only [Act.put, List.setIfInBounds_toArray, List.set_cons_zero, List.set_cons_succ]
            refine take_on (i := 12) (v := ?_) rfl rfl (by kernel_rfl) (by kernel_rfl) (by kernel_rfl) (fun _ _ _ h => h) rfl ?_ hHeld ?_
            rotate_left
            · (intro wq hSq; have q0 := (World.cell?_of_block (w := Wr) (a := ⟨p, t * 2, none⟩) hSq.1).trans y0; have q1 := (World.cell?_of_block (w := Wr) (a := ⟨p, t * 2 + 1, none⟩) hSq.1).trans y1; have q2 := (World.cell?_of_block (w := Wr) (a := ⟨q, t, none⟩) hSq.2.1).trans y2; have q3 := (World.cell?_of_block (w := Wr) (a := ⟨wr.heap.size, 0, none⟩) hSq.2.2).trans x0; have q4 := (World.cell?_of_block (w := Wr) (a := ⟨wr.heap.size, 1, none⟩) hSq.2.2).trans x1; go_simp <;> first | with_reducible rfl | rfl)
            simp only [Act.put, List.setIfInBounds_toArray, List.set_cons_zero, List.set_cons_succ]
            refine take_on (i := 13) (v := ?_) rfl rfl (by kernel_rfl) (by kernel_rfl) (by kernel_rfl) (fun _ _ _ h => h) rfl ?_ hHeld ?_
            rotate_left
            · (intro wq hSq; have q0 := (World.cell?_of_block (w := Wr) (a := ⟨p, t * 2, none⟩) hSq.1).trans y0; have q1 := (World.cell?_of_block (w := Wr) (a := ⟨p, t * 2 + 1, none⟩) hSq.1).trans y1; have q2 := (World.cell?_of_block (w := Wr) (a := ⟨q, t, none⟩) hSq.2.1).trans y2; have q3 := (World.cell?_of_block (w := Wr) (a := ⟨wr.heap.size, 0, none⟩) hSq.2.2).trans x0; have q4 := (World.cell?_of_block (w := Wr) (a := ⟨wr.heap.size, 1, none⟩) hSq.2.2).trans x1; go_simp <;> first | with_reducible rfl | rfl)
            simp only [Act.put, List.setIfInBounds_toArray, List.set_cons_zero, List.set_cons_succ]
            refine take_on (i := 14) (v := ?_) rfl rfl (by kernel_rfl) (by kernel_rfl) (by kernel_rfl) (fun _ _ _ h => h) rfl ?_ hHeld ?_
            rotate_left
            · (intro wq hSq; have q0 := (World.cell?_of_block (w := Wr) (a := ⟨p, t * 2, none⟩) hSq.1).trans y0; have q1 := (World.cell?_of_block (w := Wr) (a := ⟨p, t * 2 + 1, none⟩) hSq.1).trans y1; have q2 := (World.cell?_of_block (w := Wr) (a := ⟨q, t, none⟩) hSq.2.1).trans y2; have q3 := (World.cell?_of_block (w := Wr) (a := ⟨wr.heap.size, 0, none⟩) hSq.2.2).trans x0; have q4 := (World.cell?_of_block (w := Wr) (a := ⟨wr.heap.size, 1, none⟩) hSq.2.2).trans x1; go_simp <;> first | with_reducible rfl | rfl)
            simp only [Act.put, List.setIfInBounds_toArray, List.set_cons_zero, List.set_cons_succ]
            refine take_one (i := 15) rfl (by kernel_rfl) (fun K hK => ?_)
            go_simp
            refine hK.out _ _ ?_ (fun hHeld => ?_)
            · exact ⟨(Below.heap_alloc _ _ _ (by omega)).trans hHeld.1, (Below.heap_alloc _ _ _ (by omega)).trans hHeld.2.1, (Below.heap_alloc _ _ _ (by omega)).trans hHeld.2.2⟩
            clear hK K
            try simp only [Act.put, List.setIfInBounds_toArray, List.set_cons_zero, List.set_cons_succ]
            refine take_on (i := 16) (v := ?_) rfl rfl (by kernel_rfl) (by kernel_rfl) (by kernel_rfl) (fun _ _ _ h => h) rfl ?_ hHeld ?_
            rotate_left
            · (intro wq hSq; have q0 := (World.cell?_of_block (w := Wr) (a := ⟨p, t * 2, none⟩) hSq.1).trans y0; have q1 := (World.cell?_of_block (w := Wr) (a := ⟨p, t * 2 + 1, none⟩) hSq.1).trans y1; have q2 := (World.cell?_of_block (w := Wr) (a := ⟨q, t, none⟩) hSq.2.1).trans y2; have q3 := (World.cell?_of_block (w := Wr) (a := ⟨wr.heap.size, 0, none⟩) hSq.2.2).trans x0; have q4 := (World.cell?_of_block (w := Wr) (a := ⟨wr.heap.size, 1, none⟩) hSq.2.2).trans x1; go_simp <;> first | with_reducible rfl | rfl)
            simp only [Act.put, List.setIfInBounds_toArray, List.set_cons_zero, List.set_cons_succ]
            refine take_one (i := 17) rfl (by kernel_rfl) (fun K hK => ?_)
            go_simp
            skip
            try go_wp2_with fail
            refine hK.out _ _ ?_ (fun hHeld => ?_)
            · exact ⟨(Below.heap_alloc _ _ _ (by omega)).trans hp5, (Below.heap_alloc _ _ _ (by omega)).trans hq5, (Below.heap_alloc _ _ _ (by omega)).trans hst5⟩
            clear hK K
            try simp only [Act.put, List.setIfInBounds_toArray, List.set_cons_zero, List.set_cons_succ]
            refine wpAnyH_done (by kernel_rfl) ?_ _
            have m0 := (World.cell?_of_block (w := Wr) (a := ⟨p, t * 2, none⟩) hp5).trans y0
            have m1 := (World.cell?_of_block (w := Wr) (a := ⟨p, t * 2 + 1, none⟩) hp5).trans y1
            have m2 := (World.frozen?_of_block (w := Wr) (a := ⟨p, t * 2, none⟩) hp5).trans y3
            have m3 := (World.frozen?_of_block (w := Wr) (a := ⟨p, t * 2 + 1, none⟩) hp5).trans y4
            clear y0 y1 y2 y3 y4 x0 x1 s0 s1 hdo1 hdo2
            have hpw : ¬ p = w5.heap.size := by omega
            have hpl5 : p < w5.heap.size := by omega
            go_wp2
            go_roundw
            case rel =>
              have zb := below_drewN (Below.refl Wr.heap.size Wr) 1
              obtain ⟨z1, z2⟩ := (HTR.out.below zb).next (by have := HBR.out.size; simpa using this) ht2 HG5.out HB5.out HN5.out HO5.out
              have z3 := (HBR.out.trans (zb.mono HBR.out.size)).trans z2
              exact ⟨m + 1, by omega, by go_num, ⟨_, _, _, z1.below ((Below.refl _ _).alloc (Nat.le_refl _) _)⟩, z3.alloc z3.size _⟩
            case measure => simp [intOf]; omega
          · go_simp
            refine hK.out _ _ ?_ (fun hHeld => ?_)
            · exact ⟨Below.heap_alloc _ _ _ y5, Below.heap_alloc _ _ _ y6, Below.heap_alloc _ _ _ hWs⟩
            clear hK K
            try simp only [Act.put, List.setIfInBounds_toArray, List.set_cons_zero, List.set_cons_succ]
            refine take_one (i := 11) rfl (by kernel_rfl) (fun K hK => ?_)
            go_simp
            refine hdo2.mono ?_; rintro e w5 ⟨v5, g5, rfl, hg5, hb5, ho5, hn5⟩; have hn8 := (ho5.block Wr.heap.size (by simp) (by have := (HTR.out.both t ht2).qu.lt; omega) (by have := (HTR.out.both t ht2).qu.lt; omega)).trans (heap_alloc_new (Wr.drewN 1) (.cells #[.int .i64 0, .slice none 0 0] 24)); obtain ⟨a5, c5, hv5, _⟩ := hb5.shape; obtain ⟨ys, hys⟩ : ∃ ys, ys = nxt (N t) (xs t) Kd S := ⟨_, rfl⟩; rw [← hys] at hb5 hv5; obtain ⟨Y, hY⟩ : ∃ Y, Y = ys.length := ⟨_, rfl⟩; rw [← hY] at hv5; subst hv5; have HB5 := hide_it hb5; have HO5 := hide_it ho5; have HG5 := hide_it hg5; have HN5 := hide_it hn5; have hoff := HTR.out.off t ht2; have hgl := (HTR.out.both t ht2).qu.lt; have hp5 := ho5.block p (by simp; omega) hoff.1 hoff.2.1; have hq5 := ho5.block q (by simp; omega) hoff.2.2.1 hoff.2.2.2; have hst5 := ho5.block wr.heap.size (by simp; omega) (by omega) (by omega); have hs5 := ho5.size; simp at hs5; clear hb5 ho5 hg5 hn5 hys hY hoff hgl; have l0 := cell_of_row _ _ 0 _ _ _ hn8; have l1 := cell_of_row _ _ 1 _ _ _ hn8; have l2 := frozen_of_row _ _ 0 _ _ hn8; have l3 := frozen_of_row _ _ 1 _ _ hn8; simp only [List.getElem?_toArray, List.getElem?_cons_zero, List.getElem?_cons_succ] at l0 l1; have HN8 := hide_it hn8; clear hn8
            try go_wp2_with fail
            refine hK.out _ _ ?_ (fun hHeld => ?_)
            · exact ⟨hp5.trans (Below.heap_alloc _ _ _ y5), hq5.trans (Below.heap_alloc _ _ _ y6), hst5.trans (Below.heap_alloc _ _ _ hWs)⟩
            clear hK K
            try simp only [Act.put, List.setIfInBounds_toArray, List.set_cons_zero, List.set_cons_succ]
            refine take_on (i := 12) (v := ?_) rfl rfl (by kernel_rfl) (by kernel_rfl) (by kernel_rfl) (fun _ _ _ h => h) rfl ?_ hHeld ?_
            rotate_left
            · (intro wq hSq; have q0 := (World.cell?_of_block (w := Wr) (a := ⟨p, t * 2, none⟩) hSq.1).trans y0; have q1 := (World.cell?_of_block (w := Wr) (a := ⟨p, t * 2 + 1, none⟩) hSq.1).trans y1; have q2 := (World.cell?_of_block (w := Wr) (a := ⟨q, t, none⟩) hSq.2.1).trans y2; have q3 := (World.cell?_of_block (w := Wr) (a := ⟨wr.heap.size, 0, none⟩) hSq.2.2).trans x0; have q4 := (World.cell?_of_block (w := Wr) (a := ⟨wr.heap.size, 1, none⟩) hSq.2.2).trans x1; go_simp <;> first | with_reducible rfl | rfl)
            simp only [Act.put, List.setIfInBounds_toArray, List.set_cons_zero, List.set_cons_succ]
            refine take_on (i := 13) (v := ?_) rfl rfl (by kernel_rfl) (by kernel_rfl) (by kernel_rfl) (fun _ _ _ h => h) rfl ?_ hHeld ?_
            rotate_left
            · (intro wq hSq; have q0 := (World.cell?_of_block (w := Wr) (a := ⟨p, t * 2, none⟩) hSq.1).trans y0; have q1 := (World.cell?_of_block (w := Wr) (a := ⟨p, t * 2 + 1, none⟩) hSq.1).trans y1; have q2 := (World.cell?_of_block (w := Wr) (a := ⟨q, t, none⟩) hSq.2.1).trans y2; have q3 := (World.cell?_of_block (w := Wr) (a := ⟨wr.heap.size, 0, none⟩) hSq.2.2).trans x0; have q4 := (World.cell?_of_block (w := Wr) (a := ⟨wr.heap.size, 1, none⟩) hSq.2.2).trans x1; go_simp <;> first | with_reducible rfl | rfl)
            simp only [Act.put, List.setIfInBounds_toArray, List.set_cons_zero, List.set_cons_succ]
            refine take_on (i := 14) (v := ?_) rfl rfl (by kernel_rfl) (by kernel_rfl) (by kernel_rfl) (fun _ _ _ h => h) rfl ?_ hHeld ?_
            rotate_left
            · (intro wq hSq; have q0 := (World.cell?_of_block (w := Wr) (a := ⟨p, t * 2, none⟩) hSq.1).trans y0; have q1 := (World.cell?_of_block (w := Wr) (a := ⟨p, t * 2 + 1, none⟩) hSq.1).trans y1; have q2 := (World.cell?_of_block (w := Wr) (a := ⟨q, t, none⟩) hSq.2.1).trans y2; have q3 := (World.cell?_of_block (w := Wr) (a := ⟨wr.heap.size, 0, none⟩) hSq.2.2).trans x0; have q4 := (World.cell?_of_block (w := Wr) (a := ⟨wr.heap.size, 1, none⟩) hSq.2.2).trans x1; go_simp <;> first | with_reducible rfl | rfl)
            simp only [Act.put, List.setIfInBounds_toArray, List.set_cons_zero, List.set_cons_succ]
            refine take_on (i := 16) (v := ?_) rfl rfl (by kernel_rfl) (by kernel_rfl) (by kernel_rfl) (fun _ _ _ h => h) rfl ?_ hHeld ?_
            rotate_left
            · (intro wq hSq; have q0 := (World.cell?_of_block (w := Wr) (a := ⟨p, t * 2, none⟩) hSq.1).trans y0; have q1 := (World.cell?_of_block (w := Wr) (a := ⟨p, t * 2 + 1, none⟩) hSq.1).trans y1; have q2 := (World.cell?_of_block (w := Wr) (a := ⟨q, t, none⟩) hSq.2.1).trans y2; have q3 := (World.cell?_of_block (w := Wr) (a := ⟨wr.heap.size, 0, none⟩) hSq.2.2).trans x0; have q4 := (World.cell?_of_block (w := Wr) (a := ⟨wr.heap.size, 1, none⟩) hSq.2.2).trans x1; go_simp <;> first | with_reducible rfl | rfl)
            simp only [Act.put, List.setIfInBounds_toArray, List.set_cons_zero, List.set_cons_succ]
            refine take_one (i := 17) rfl (by kernel_rfl) (fun K hK => ?_)
            go_simp
            skip
            try go_wp2_with fail
            refine hK.out _ _ ?_ (fun hHeld => ?_)
            · exact ⟨(Below.heap_setCell _ _ _ _ (by simp; omega)).trans ((Below.heap_setCell _ _ _ _ (by simp; omega)).trans hHeld.1), (Below.heap_setCell _ _ _ _ (by simp; omega)).trans ((Below.heap_setCell _ _ _ _ (by simp; omega)).trans hHeld.2.1), (Below.heap_setCell _ _ _ _ (by simp; omega)).trans ((Below.heap_setCell _ _ _ _ (by simp; omega)).trans hHeld.2.2)⟩
            clear hK K
            try simp only [Act.put, List.setIfInBounds_toArray, List.set_cons_zero, List.set_cons_succ]
            refine wpAnyH_done (by kernel_rfl) ?_ _
            have hp6 : w5.heap[p]? = Wr.heap[p]? := hp5.trans (Below.heap_alloc _ _ _ y5)
            have m0 := (World.cell?_of_block (w := Wr) (a := ⟨p, t * 2, none⟩) hp6).trans y0
            have m1 := (World.cell?_of_block (w := Wr) (a := ⟨p, t * 2 + 1, none⟩) hp6).trans y1
            have m2 := (World.frozen?_of_block (w := Wr) (a := ⟨p, t * 2, none⟩) hp6).trans y3
            have m3 := (World.frozen?_of_block (w := Wr) (a := ⟨p, t * 2 + 1, none⟩) hp6).trans y4
            clear y0 y1 y2 y3 y4 x0 x1 s0 s1 hdo1 hdo2
            have hpw : ¬ p = Wr.heap.size := by omega
            have hpw2 : ¬ Wr.heap.size = p := by omega
            go_wp2
            go_roundw
            case rel =>
              have zb := below_drewN (Below.refl Wr.heap.size Wr) 1
              have hbs := (HTR.out.both t ht2).qu.lt
              have hg6 : g5 = g t ∨ g5 = b t ∨ (Wr.drewN 1).heap.size ≤ g5 := by
                rcases HG5.out with e | e | e
                · exact .inl e
                · exact .inr (.inl e)
                · refine .inr (.inr ?_)
                  simp at e ⊢
                  omega
              have hg7 : Wr.heap.size ≠ g5 := by
                rcases HG5.out with e | e | e
                · omega
                · omega
                · simp at e; omega
              have ho6 := (((Only.of_below (b := b t) (g := g t) ((Below.refl (Wr.drewN 1).heap.size (Wr.drewN 1)).alloc (Nat.le_refl _) (.cells #[.int .i64 0, .slice none 0 0] 24))).trans HO5.out (.inl rfl)).setN (c := Wr.heap.size) (by simp) 0 (.int .i64 (N t : Int))).setN (c := Wr.heap.size) (by simp) 1 (.slice a5 Y c5)
              obtain ⟨z1, z2⟩ := (HTR.out.below zb).next (by have := HBR.out.size; simpa using this) ht2 hg6 (HB5.out.put_box HN8.out (by omega) hg7) (fun j hj => by rcases HN5.out j hj with e | e; exact .inl e; exact .inr (by simp at e ⊢; omega)) ho6
              have z3 := (HBR.out.trans (zb.mono HBR.out.size)).trans z2
              exact ⟨m + 1, by omega, by go_num, ⟨_, _, _, z1⟩, z3⟩
            case measure => simp [intOf]; omega
        · obtain ⟨y0, y1, y2, _, _, y5, y6⟩ := ht.cells (t := 0) (by omega)
          obtain ⟨z0, z1, z2, _, _, _, _⟩ := ht.cells (t := 1) (by omega)
          obtain ⟨va, vc, hv, _⟩ := (ht.both 0 (by omega)).shape
          obtain ⟨ua, uc, hu, _⟩ := (ht.both 1 (by omega)).shape
          have hl0 := lenS_any (b 0) (g 0) (N 0) (xs 0) (wr.drewN 1) ((ht.both 0 (by omega)).qu.keep (by simp) (by simp))
          have hl1 := lenS_any (b 1) (g 1) (N 1) (xs 1) (wr.drewN 1) ((ht.both 1 (by omega)).qu.keep (by simp) (by simp))
          rw [hv] at y1
          rw [hu] at z1
          generalize (xs 0).length = L0 at *
          generalize (xs 1).length = L1 at *
          generalize b 0 = B0 at *
          generalize b 1 = B1 at *
          simp only [Nat.zero_mul, Nat.zero_add, Nat.one_mul, Nat.reduceAdd] at y0 y1 y2 z0 z1 z2
          have HB := hide_it hbl
          clear ht hv hu hbl hrow
          go_wp2_with fail
          refine wp_region_held_drew (S := (fun w' => w'.heap[p]? = wr.heap[p]? ∧ w'.heap[q]? = wr.heap[q]?)) (by kernel_rfl) ?_ (fun hHeld => ?_)
          · exact ⟨rfl, rfl⟩
          refine take_on (i := 0) (v := ?_) rfl rfl (by kernel_rfl) (by kernel_rfl) (by kernel_rfl) (fun _ _ _ h => h) rfl ?_ hHeld ?_
          rotate_left
          · (intro wq hSq; have q1 := (World.cell?_of_block (w := wr) (a := ⟨p, 1, none⟩) hSq.1).trans y1; have q2 := (World.cell?_of_block (w := wr) (a := ⟨q, 0, none⟩) hSq.2).trans y2; have q3 := (World.cell?_of_block (w := wr) (a := ⟨p, 3, none⟩) hSq.1).trans z1; have q4 := (World.cell?_of_block (w := wr) (a := ⟨q, 1, none⟩) hSq.2).trans z2; go_simp <;> first | with_reducible rfl | rfl)
          simp only [Act.put, List.setIfInBounds_toArray, List.set_cons_zero, List.set_cons_succ]
          refine take_on (i := 1) (v := ?_) rfl rfl (by kernel_rfl) (by kernel_rfl) (by kernel_rfl) (fun _ _ _ h => h) rfl ?_ hHeld ?_
          rotate_left
          · (intro wq hSq; have q1 := (World.cell?_of_block (w := wr) (a := ⟨p, 1, none⟩) hSq.1).trans y1; have q2 := (World.cell?_of_block (w := wr) (a := ⟨q, 0, none⟩) hSq.2).trans y2; have q3 := (World.cell?_of_block (w := wr) (a := ⟨p, 3, none⟩) hSq.1).trans z1; have q4 := (World.cell?_of_block (w := wr) (a := ⟨q, 1, none⟩) hSq.2).trans z2; go_simp <;> first | with_reducible rfl | rfl)
          simp only [Act.put, List.setIfInBounds_toArray, List.set_cons_zero, List.set_cons_succ]
          refine take_on (i := 2) (v := ?_) rfl rfl (by kernel_rfl) (by kernel_rfl) (by kernel_rfl) (fun _ _ _ h => h) rfl ?_ hHeld ?_
          rotate_left
          · (intro wq hSq; have q1 := (World.cell?_of_block (w := wr) (a := ⟨p, 1, none⟩) hSq.1).trans y1; have q2 := (World.cell?_of_block (w := wr) (a := ⟨q, 0, none⟩) hSq.2).trans y2; have q3 := (World.cell?_of_block (w := wr) (a := ⟨p, 3, none⟩) hSq.1).trans z1; have q4 := (World.cell?_of_block (w := wr) (a := ⟨q, 1, none⟩) hSq.2).trans z2; go_simp <;> first | with_reducible rfl | rfl)
          simp only [Act.put, List.setIfInBounds_toArray, List.set_cons_zero, List.set_cons_succ]
          refine take_on (i := 4) (v := ?_) rfl rfl (by kernel_rfl) (by kernel_rfl) (by kernel_rfl) (fun _ _ _ h => h) rfl ?_ hHeld ?_
          rotate_left
          · (intro wq hSq; have q1 := (World.cell?_of_block (w := wr) (a := ⟨p, 1, none⟩) hSq.1).trans y1; have q2 := (World.cell?_of_block (w := wr) (a := ⟨q, 0, none⟩) hSq.2).trans y2; have q3 := (World.cell?_of_block (w := wr) (a := ⟨p, 3, none⟩) hSq.1).trans z1; have q4 := (World.cell?_of_block (w := wr) (a := ⟨q, 1, none⟩) hSq.2).trans z2; go_simp <;> first | with_reducible rfl | rfl)
          simp only [Act.put, List.setIfInBounds_toArray, List.set_cons_zero, List.set_cons_succ]
          refine take_on (i := 5) (v := ?_) rfl rfl (by kernel_rfl) (by kernel_rfl) (by kernel_rfl) (fun _ _ _ h => h) rfl ?_ hHeld ?_
          rotate_left
          · (intro wq hSq; have q1 := (World.cell?_of_block (w := wr) (a := ⟨p, 1, none⟩) hSq.1).trans y1; have q2 := (World.cell?_of_block (w := wr) (a := ⟨q, 0, none⟩) hSq.2).trans y2; have q3 := (World.cell?_of_block (w := wr) (a := ⟨p, 3, none⟩) hSq.1).trans z1; have q4 := (World.cell?_of_block (w := wr) (a := ⟨q, 1, none⟩) hSq.2).trans z2; go_simp <;> first | with_reducible rfl | rfl)
          simp only [Act.put, List.setIfInBounds_toArray, List.set_cons_zero, List.set_cons_succ]
          refine take_on (i := 6) (v := ?_) rfl rfl (by kernel_rfl) (by kernel_rfl) (by kernel_rfl) (fun _ _ _ h => h) rfl ?_ hHeld ?_
          rotate_left
          · (intro wq hSq; have q1 := (World.cell?_of_block (w := wr) (a := ⟨p, 1, none⟩) hSq.1).trans y1; have q2 := (World.cell?_of_block (w := wr) (a := ⟨q, 0, none⟩) hSq.2).trans y2; have q3 := (World.cell?_of_block (w := wr) (a := ⟨p, 3, none⟩) hSq.1).trans z1; have q4 := (World.cell?_of_block (w := wr) (a := ⟨q, 1, none⟩) hSq.2).trans z2; go_simp <;> first | with_reducible rfl | rfl)
          simp only [Act.put, List.setIfInBounds_toArray, List.set_cons_zero, List.set_cons_succ]
          refine take_on (i := 7) (v := ?_) rfl rfl (by kernel_rfl) (by kernel_rfl) (by kernel_rfl) (fun _ _ _ h => h) rfl ?_ hHeld ?_
          rotate_left
          · (intro wq hSq; have q1 := (World.cell?_of_block (w := wr) (a := ⟨p, 1, none⟩) hSq.1).trans y1; have q2 := (World.cell?_of_block (w := wr) (a := ⟨q, 0, none⟩) hSq.2).trans y2; have q3 := (World.cell?_of_block (w := wr) (a := ⟨p, 3, none⟩) hSq.1).trans z1; have q4 := (World.cell?_of_block (w := wr) (a := ⟨q, 1, none⟩) hSq.2).trans z2; go_simp <;> first | with_reducible rfl | rfl)
          simp only [Act.put, List.setIfInBounds_toArray, List.set_cons_zero, List.set_cons_succ]
          refine take_on (i := 8) (v := ?_) rfl rfl (by kernel_rfl) (by kernel_rfl) (by kernel_rfl) (fun _ _ _ h => h) rfl ?_ hHeld ?_
          rotate_left
          · (intro wq hSq; have q1 := (World.cell?_of_block (w := wr) (a := ⟨p, 1, none⟩) hSq.1).trans y1; have q2 := (World.cell?_of_block (w := wr) (a := ⟨q, 0, none⟩) hSq.2).trans y2; have q3 := (World.cell?_of_block (w := wr) (a := ⟨p, 3, none⟩) hSq.1).trans z1; have q4 := (World.cell?_of_block (w := wr) (a := ⟨q, 1, none⟩) hSq.2).trans z2; go_simp <;> first | with_reducible rfl | rfl)
          simp only [Act.put, List.setIfInBounds_toArray, List.set_cons_zero, List.set_cons_succ]
          refine take_one (i := 3) rfl (by kernel_rfl) (fun K hK => ?_)
          go_simp
          refine hl0.mono ?_; rintro e w5 ⟨rfl, hq⟩; have hq2 := hq.symm; subst hq2; clear hq
          try go_wp2_with fail
          refine hK.out _ _ ?_ (fun hHeld => ?_)
          · exact ⟨rfl, rfl⟩
          clear hK K
          try simp only [Act.put, List.setIfInBounds_toArray, List.set_cons_zero, List.set_cons_succ]
          refine take_on (i := 9) (v := ?_) rfl rfl (by kernel_rfl) (by kernel_rfl) (by kernel_rfl) (fun _ _ _ h => h) rfl ?_ hHeld ?_
          rotate_left
          · (intro wq hSq; have q1 := (World.cell?_of_block (w := wr) (a := ⟨p, 1, none⟩) hSq.1).trans y1; have q2 := (World.cell?_of_block (w := wr) (a := ⟨q, 0, none⟩) hSq.2).trans y2; have q3 := (World.cell?_of_block (w := wr) (a := ⟨p, 3, none⟩) hSq.1).trans z1; have q4 := (World.cell?_of_block (w := wr) (a := ⟨q, 1, none⟩) hSq.2).trans z2; go_simp <;> first | with_reducible rfl | rfl)
          simp only [Act.put, List.setIfInBounds_toArray, List.set_cons_zero, List.set_cons_succ]
          refine take_on (i := 10) (v := ?_) rfl rfl (by kernel_rfl) (by kernel_rfl) (by kernel_rfl) (fun _ _ _ h => h) rfl ?_ hHeld ?_
          rotate_left
          · (intro wq hSq; have q1 := (World.cell?_of_block (w := wr) (a := ⟨p, 1, none⟩) hSq.1).trans y1; have q2 := (World.cell?_of_block (w := wr) (a := ⟨q, 0, none⟩) hSq.2).trans y2; have q3 := (World.cell?_of_block (w := wr) (a := ⟨p, 3, none⟩) hSq.1).trans z1; have q4 := (World.cell?_of_block (w := wr) (a := ⟨q, 1, none⟩) hSq.2).trans z2; go_simp <;> first | with_reducible rfl | rfl)
          simp only [Act.put, List.setIfInBounds_toArray, List.set_cons_zero, List.set_cons_succ]
          refine take_on (i := 11) (v := ?_) rfl rfl (by kernel_rfl) (by kernel_rfl) (by kernel_rfl) (fun _ _ _ h => h) rfl ?_ hHeld ?_
          rotate_left
          · (intro wq hSq; have q1 := (World.cell?_of_block (w := wr) (a := ⟨p, 1, none⟩) hSq.1).trans y1; have q2 := (World.cell?_of_block (w := wr) (a := ⟨q, 0, none⟩) hSq.2).trans y2; have q3 := (World.cell?_of_block (w := wr) (a := ⟨p, 3, none⟩) hSq.1).trans z1; have q4 := (World.cell?_of_block (w := wr) (a := ⟨q, 1, none⟩) hSq.2).trans z2; go_simp <;> first | with_reducible rfl | rfl)
          simp only [Act.put, List.setIfInBounds_toArray, List.set_cons_zero, List.set_cons_succ]
          refine take_on (i := 12) (v := ?_) rfl rfl (by kernel_rfl) (by kernel_rfl) (by kernel_rfl) (fun _ _ _ h => h) rfl ?_ hHeld ?_
          rotate_left
          · (intro wq hSq; have q1 := (World.cell?_of_block (w := wr) (a := ⟨p, 1, none⟩) hSq.1).trans y1; have q2 := (World.cell?_of_block (w := wr) (a := ⟨q, 0, none⟩) hSq.2).trans y2; have q3 := (World.cell?_of_block (w := wr) (a := ⟨p, 3, none⟩) hSq.1).trans z1; have q4 := (World.cell?_of_block (w := wr) (a := ⟨q, 1, none⟩) hSq.2).trans z2; go_simp <;> first | with_reducible rfl | rfl)
          simp only [Act.put, List.setIfInBounds_toArray, List.set_cons_zero, List.set_cons_succ]
          refine take_on (i := 13) (v := ?_) rfl rfl (by kernel_rfl) (by kernel_rfl) (by kernel_rfl) (fun _ _ _ h => h) rfl ?_ hHeld ?_
          rotate_left
          · (intro wq hSq; have q1 := (World.cell?_of_block (w := wr) (a := ⟨p, 1, none⟩) hSq.1).trans y1; have q2 := (World.cell?_of_block (w := wr) (a := ⟨q, 0, none⟩) hSq.2).trans y2; have q3 := (World.cell?_of_block (w := wr) (a := ⟨p, 3, none⟩) hSq.1).trans z1; have q4 := (World.cell?_of_block (w := wr) (a := ⟨q, 1, none⟩) hSq.2).trans z2; go_simp <;> first | with_reducible rfl | rfl)
          simp only [Act.put, List.setIfInBounds_toArray, List.set_cons_zero, List.set_cons_succ]
          refine take_on (i := 15) (v := ?_) rfl rfl (by kernel_rfl) (by kernel_rfl) (by kernel_rfl) (fun _ _ _ h => h) rfl ?_ hHeld ?_
          rotate_left
          · (intro wq hSq; have q1 := (World.cell?_of_block (w := wr) (a := ⟨p, 1, none⟩) hSq.1).trans y1; have q2 := (World.cell?_of_block (w := wr) (a := ⟨q, 0, none⟩) hSq.2).trans y2; have q3 := (World.cell?_of_block (w := wr) (a := ⟨p, 3, none⟩) hSq.1).trans z1; have q4 := (World.cell?_of_block (w := wr) (a := ⟨q, 1, none⟩) hSq.2).trans z2; go_simp <;> first | with_reducible rfl | rfl)
          simp only [Act.put, List.setIfInBounds_toArray, List.set_cons_zero, List.set_cons_succ]
          refine take_on (i := 16) (v := ?_) rfl rfl (by kernel_rfl) (by kernel_rfl) (by kernel_rfl) (fun _ _ _ h => h) rfl ?_ hHeld ?_
          rotate_left
          · (intro wq hSq; have q1 := (World.cell?_of_block (w := wr) (a := ⟨p, 1, none⟩) hSq.1).trans y1; have q2 := (World.cell?_of_block (w := wr) (a := ⟨q, 0, none⟩) hSq.2).trans y2; have q3 := (World.cell?_of_block (w := wr) (a := ⟨p, 3, none⟩) hSq.1).trans z1; have q4 := (World.cell?_of_block (w := wr) (a := ⟨q, 1, none⟩) hSq.2).trans z2; go_simp <;> first | with_reducible rfl | rfl)
          simp only [Act.put, List.setIfInBounds_toArray, List.set_cons_zero, List.set_cons_succ]
          refine take_on (i := 17) (v := ?_) rfl rfl (by kernel_rfl) (by kernel_rfl) (by kernel_rfl) (fun _ _ _ h => h) rfl ?_ hHeld ?_
          rotate_left
          · (intro wq hSq; have q1 := (World.cell?_of_block (w := wr) (a := ⟨p, 1, none⟩) hSq.1).trans y1; have q2 := (World.cell?_of_block (w := wr) (a := ⟨q, 0, none⟩) hSq.2).trans y2; have q3 := (World.cell?_of_block (w := wr) (a := ⟨p, 3, none⟩) hSq.1).trans z1; have q4 := (World.cell?_of_block (w := wr) (a := ⟨q, 1, none⟩) hSq.2).trans z2; go_simp <;> first | with_reducible rfl | rfl)
          simp only [Act.put, List.setIfInBounds_toArray, List.set_cons_zero, List.set_cons_succ]
          refine take_on (i := 18) (v := ?_) rfl rfl (by kernel_rfl) (by kernel_rfl) (by kernel_rfl) (fun _ _ _ h => h) rfl ?_ hHeld ?_
          rotate_left
          · (intro wq hSq; have q1 := (World.cell?_of_block (w := wr) (a := ⟨p, 1, none⟩) hSq.1).trans y1; have q2 := (World.cell?_of_block (w := wr) (a := ⟨q, 0, none⟩) hSq.2).trans y2; have q3 := (World.cell?_of_block (w := wr) (a := ⟨p, 3, none⟩) hSq.1).trans z1; have q4 := (World.cell?_of_block (w := wr) (a := ⟨q, 1, none⟩) hSq.2).trans z2; go_simp <;> first | with_reducible rfl | rfl)
          simp only [Act.put, List.setIfInBounds_toArray, List.set_cons_zero, List.set_cons_succ]
          refine take_on (i := 19) (v := ?_) rfl rfl (by kernel_rfl) (by kernel_rfl) (by kernel_rfl) (fun _ _ _ h => h) rfl ?_ hHeld ?_
          rotate_left
          · (intro wq hSq; have q1 := (World.cell?_of_block (w := wr) (a := ⟨p, 1, none⟩) hSq.1).trans y1; have q2 := (World.cell?_of_block (w := wr) (a := ⟨q, 0, none⟩) hSq.2).trans y2; have q3 := (World.cell?_of_block (w := wr) (a := ⟨p, 3, none⟩) hSq.1).trans z1; have q4 := (World.cell?_of_block (w := wr) (a := ⟨q, 1, none⟩) hSq.2).trans z2; go_simp <;> first | with_reducible rfl | rfl)
          simp only [Act.put, List.setIfInBounds_toArray, List.set_cons_zero, List.set_cons_succ]
          refine take_one (i := 14) rfl (by kernel_rfl) (fun K hK => ?_)
          go_simp
          refine hl1.mono ?_; rintro e w5 ⟨rfl, hq⟩; have hq2 := hq.symm; subst hq2; clear hq
          try go_wp2_with fail
          refine hK.out _ _ ?_ (fun hHeld => ?_)
          · exact ⟨rfl, rfl⟩
          clear hK K
          try simp only [Act.put, List.setIfInBounds_toArray, List.set_cons_zero, List.set_cons_succ]
          refine take_on (i := 20) (v := ?_) rfl rfl (by kernel_rfl) (by kernel_rfl) (by kernel_rfl) (fun _ _ _ h => h) rfl ?_ hHeld ?_
          rotate_left
          · (intro wq hSq; have q1 := (World.cell?_of_block (w := wr) (a := ⟨p, 1, none⟩) hSq.1).trans y1; have q2 := (World.cell?_of_block (w := wr) (a := ⟨q, 0, none⟩) hSq.2).trans y2; have q3 := (World.cell?_of_block (w := wr) (a := ⟨p, 3, none⟩) hSq.1).trans z1; have q4 := (World.cell?_of_block (w := wr) (a := ⟨q, 1, none⟩) hSq.2).trans z2; go_simp <;> first | with_reducible rfl | rfl)
          simp only [Act.put, List.setIfInBounds_toArray, List.set_cons_zero, List.set_cons_succ]
          refine take_on (i := 21) (v := ?_) rfl rfl (by kernel_rfl) (by kernel_rfl) (by kernel_rfl) (fun _ _ _ h => h) rfl ?_ hHeld ?_
          rotate_left
          · (intro wq hSq; have q1 := (World.cell?_of_block (w := wr) (a := ⟨p, 1, none⟩) hSq.1).trans y1; have q2 := (World.cell?_of_block (w := wr) (a := ⟨q, 0, none⟩) hSq.2).trans y2; have q3 := (World.cell?_of_block (w := wr) (a := ⟨p, 3, none⟩) hSq.1).trans z1; have q4 := (World.cell?_of_block (w := wr) (a := ⟨q, 1, none⟩) hSq.2).trans z2; go_simp <;> first | with_reducible rfl | rfl)
          simp only [Act.put, List.setIfInBounds_toArray, List.set_cons_zero, List.set_cons_succ]
          refine take_on (i := 22) (v := ?_) rfl rfl (by kernel_rfl) (by kernel_rfl) (by kernel_rfl) (fun _ _ _ h => h) rfl ?_ hHeld ?_
          rotate_left
          · (intro wq hSq; have q1 := (World.cell?_of_block (w := wr) (a := ⟨p, 1, none⟩) hSq.1).trans y1; have q2 := (World.cell?_of_block (w := wr) (a := ⟨q, 0, none⟩) hSq.2).trans y2; have q3 := (World.cell?_of_block (w := wr) (a := ⟨p, 3, none⟩) hSq.1).trans z1; have q4 := (World.cell?_of_block (w := wr) (a := ⟨q, 1, none⟩) hSq.2).trans z2; go_simp <;> first | with_reducible rfl | rfl)
          simp only [Act.put, List.setIfInBounds_toArray, List.set_cons_zero, List.set_cons_succ]
          refine wpAnyH_done (by kernel_rfl) ?_ _
          go_wp2
          go_ret
          exact ⟨rfl, below_drewN HB.out 1⟩

end Go.Proofs.Ytomfhbngpikjeaa.queueTwo
