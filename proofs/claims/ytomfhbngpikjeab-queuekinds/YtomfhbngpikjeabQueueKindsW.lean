/- A queue holds things of every kind: the law's walk. -/
import Derived.Test.YtomfhbngpikjeabQuKd1
import Derived.Deep.CutRange
import Derived.Lib.Builder
namespace Go.Proofs.Ytomfhbngpikjeab.queueKinds
open Go.RowKit

/-- A pointer is the same as itself. -/
theorem neqR (w : World) (a : Addr) : (binOp .neq 32 (.pointer (some a)) (.pointer (some a))).run Try.prog w = .ok (.bool false) w := by
  obtain ⟨i0, hi, _⟩ := info_parts infoQP
  exact Go.Lib.run_neq_ptr_same w a Try.underlying32 hi
theorem neqN (w : World) (a : Addr) : (binOp .neq 49 (.pointer (some a)) (.pointer (some a))).run Try.prog w = .ok (.bool false) w := by
  obtain ⟨i0, hi, _⟩ := info_parts infoQI
  exact Go.Lib.run_neq_ptr_same w a Try.underlying49 hi
attribute [local go_sem] neqR neqN

/-- The first k pairs. -/
def xsOf (T : Nat → Int × Bool) (k : Nat) : List (Int × Bool) := (List.range k).map T
theorem xsOf_len (T : Nat → Int × Bool) (k : Nat) : (xsOf T k).length = k := by simp [xsOf]
theorem xsOf_succ (T : Nat → Int × Bool) (k : Nat) : xsOf T (k + 1) = xsOf T k ++ [T k] := by simp [xsOf, List.range_succ]
theorem xsOf_drop (T : Nat → Int × Bool) {k n : Nat} (h : k < n) : (xsOf T n).drop k = T k :: (xsOf T n).drop (k + 1) := by
  rw [List.drop_eq_getElem_cons (by rw [xsOf_len]; exact h)]
  simp [xsOf]
theorem pair_grown {w w' : World} {g : Nat} {p : Int × Bool} {r : Option Nat} (h : PairB w g p) (hg : w.grownBy w' r) (hne : r ≠ some g) : PairB w' g p := by
  unfold PairB
  rw [hg.block g h.lt (fun e => hne e.symm)]
  exact h

theorem pair_only {w w' : World} {b g q : Nat} {p : Int × Bool} (h : PairB w q p) (hO : Only b g w w') (h1 : q ≠ b) (h2 : q ≠ g) : PairB w' q p := by
  unfold PairB
  rw [hO.block q h.lt h1 h2]
  exact h
theorem rowAtR {w : World} {base n c : Nat} {a : Option Addr} {ys : List (Option Addr)} (h : OwR w base (.slice a n c) ys) : RwR w a ys := by
  obtain ⟨a', c', e, hr, _⟩ := h.row
  injection e with e1
  subst e1
  exact hr
theorem rowAtL {w : World} {base n c : Nat} {a : Option Addr} {ys : List (Option Addr × Nat × Nat)} (h : OwL w base (.slice a n c) ys) : RwL w a ys := by
  obtain ⟨a', c', e, hr, _⟩ := h.row
  injection e with e1
  subst e1
  exact hr

set_option maxRecDepth 100000 in
set_option maxHeartbeats 4000000 in
theorem walk (a : Option Addr) (n ca : Nat) (T : Nat → Int × Bool) (w : World) (hc : CamePr w a n T) :
    Calls Try.prog 3 #[.slice a n ca] w fun e w' => e = .returned (.bool true) ∧ Below w.heap.size w w' := by
  have hnmax := hc.2
  have HC := hide_it hc
  clear hc
  by_cases hbig : 1000 < n
  · have hbi : (1000 : Int) < (n : Int) := by omega
    go_enter Try.func3, Try.ntmps3
    go_wp2_with fail
    go_ret
    exact ⟨rfl, Below.refl _ _⟩
  · have hbi : ¬ (1000 : Int) < (n : Int) := by omega
    have hn1 := newP_any 1000 w (by omega)
    go_enter Try.func3, Try.ntmps3
    go_wp2_with fail
    refine hn1.mono ?_
    rintro e w1 ⟨rfl, hq1, hb1⟩
    have hn2 := newR_any 1000 w1 (by omega)
    clear hn1
    go_wp2_with fail
    refine hn2.mono ?_
    rintro e w2 ⟨rfl, hq2, hb2⟩
    have hn3 := newL_any 1000 w2 (by omega)
    clear hn2
    go_wp2_with fail
    refine hn3.mono ?_
    rintro e w3 ⟨rfl, hq3, hb3⟩
    clear hn3
    obtain ⟨A1, hA1⟩ : ∃ A, A = w.heap.size := ⟨_, rfl⟩
    obtain ⟨B1, hB1⟩ : ∃ A, A = w1.heap.size := ⟨_, rfl⟩
    obtain ⟨C1, hC1⟩ : ∃ A, A = w2.heap.size := ⟨_, rfl⟩
    have hK0 : Kin w w3 A1 A1 B1 B1 C1 C1 (.slice none 0 0) (.slice none 0 0) [] [] [] [] [] := by
      have l1 := hq1.lt.1
      have l2 := hq2.lt.1
      have s1 := hb1.size
      have s2 := hb2.size
      have hb23 := hb2.trans (hb3.mono s2)
      rw [hA1, hB1, hC1]
      refine ⟨(hq1.below hb23), hq2.below hb3, hq3, OwR.nil _ _, OwL.nil _ _, ⟨by omega, by omega, by omega, by omega, by omega, by omega⟩, ⟨by omega, by omega, by omega, by omega⟩, ⟨by omega, by omega, by omega, by omega⟩, ⟨by omega, by omega, by omega, by omega⟩, (fun j e => by cases e), (fun j e => by cases e), (fun j e => by cases e), hb1.trans (hb23.mono s1)⟩
    have HK0 := hide_it hK0
    rw [show w.heap.size = A1 from hA1.symm, show w1.heap.size = B1 from hB1.symm, show w2.heap.size = C1 from hC1.symm]
    have HA1 := hide_it hA1
    clear hK0 hq1 hq2 hq3 hb1 hb2 hb3 hA1 hB1 hC1
    go_wp2_with fail
    refine (fixed_any _).mono ?_
    rintro e w4 ⟨rfl, hb4⟩
    have HK4 := hide_it (HK0.out.below hb4)
    clear hb4 HK0
    go_wp2_with fail
    go_loopw [9, 10, 56] (fun vp vl i wr => ∃ (k a2 b2 c2 : Nat) (pp : List (Option Addr)) (ll : List (Option Addr × Nat × Nat)), k ≤ n ∧ i = .int .i64 (k : Int) ∧ Hid (pp.length = k) ∧ Hid (ll.length = k) ∧ Hid (∀ l ∈ ll, ∃ L, l = (some ⟨L, 0, none⟩, 1, 1)) ∧ Hid (∀ p ∈ pp, ∃ P, p = some ⟨P, 0, none⟩) ∧ Hid (Kin w wr A1 a2 B1 b2 C1 c2 vp vl (xsOf T k) pp pp ll ll)) (fun _ _ i _ => n - (intOf i).toNat)
    case atStart => exact ⟨0, A1, B1, C1, [], [], by omega, rfl, rfl, rfl, (fun l h => by cases h), (fun l h => by cases h), HK4⟩
    case round =>
      obtain ⟨k, a2, b2, c2, pp, ll, hk, rfl, HPL, HLL, HLS, HPS, HK⟩ := hrel
      clear HK4
      by_cases hlt : k < n
      · have hki : (k : Int) < (n : Int) := by omega
        have hw1 : IntKind.i64.wrap ((k : Int) + 1) = (k : Int) + 1 := i64_in (by omega) (by omega)
        obtain ⟨bb, oo, ha, hbb, x1, x2⟩ := HC.out.here HK.out.bl hlt
        subst ha
        obtain ⟨x, hx⟩ : ∃ x, x = T k := ⟨_, rfl⟩
        rw [← hx] at x1 x2
        have HXE := hide_it hx
        clear hx
        go_wp2_with fail
        obtain ⟨y1, hy1⟩ : ∃ y1, y1 = wr.alloc (.cells #[.int .i64 x.1, .bool x.2] 28) := ⟨_, rfl⟩
        rw [← hy1]
        have hB1 : Below wr.heap.size wr y1 := by rw [hy1]; exact (Below.refl _ _).alloc (Nat.le_refl _) _
        have hN1 : PairB y1 wr.heap.size x := by rw [hy1]; exact PairB.new wr x
        have hs1 : wr.heap.size < y1.heap.size := by rw [hy1]; simp
        have HK1 := hide_it (HK.out.below hB1)
        have HIP := hide_it HK.out.p.inside
        have HIL := hide_it HK.out.l.inside
        obtain ⟨j0, j1, _, _⟩ := hN1.cells
        have HN1 := hide_it hN1
        clear hy1 hB1 hN1 HK x1 x2
        go_cut [13, 14] from 57 to 93 (fun p l wc => ∃ P L : Nat, p = .pointer (some ⟨P, 0, none⟩) ∧ l = .slice (some ⟨L, 0, none⟩) 1 1 ∧ Hid (Below y1.heap.size y1 wc))
        case first =>
          refine wp_region_held_drew (S := (fun w' => Below y1.heap.size y1 w')) (by kernel_rfl) ?_ (fun hHeld => ?_)
          · exact (Below.refl _ _).drew
          refine take_on (i := 0) (v := ?_) rfl rfl (by kernel_rfl) (by kernel_rfl) (by kernel_rfl) (fun _ _ _ h => h) rfl ?_ hHeld ?_
          rotate_left
          · (intro wq hSq; have q0 := (hSq.cell (p := ⟨wr.heap.size, 0, none⟩) hs1).trans j0; have q1 := (hSq.cell (p := ⟨wr.heap.size, 1, none⟩) hs1).trans j1; go_simp <;> first | with_reducible rfl | rfl)
          simp only [Act.put, List.setIfInBounds_toArray, List.set_cons_zero, List.set_cons_succ]
          refine take_on (i := 1) (v := ?_) rfl rfl (by kernel_rfl) (by kernel_rfl) (by kernel_rfl) (fun _ _ _ h => h) rfl ?_ hHeld ?_
          rotate_left
          · (intro wq hSq; have q0 := (hSq.cell (p := ⟨wr.heap.size, 0, none⟩) hs1).trans j0; have q1 := (hSq.cell (p := ⟨wr.heap.size, 1, none⟩) hs1).trans j1; go_simp <;> first | with_reducible rfl | rfl)
          simp only [Act.put, List.setIfInBounds_toArray, List.set_cons_zero, List.set_cons_succ]
          refine take_on (i := 2) (v := ?_) rfl rfl (by kernel_rfl) (by kernel_rfl) (by kernel_rfl) (fun _ _ _ h => h) rfl ?_ hHeld ?_
          rotate_left
          · (intro wq hSq; have q0 := (hSq.cell (p := ⟨wr.heap.size, 0, none⟩) hs1).trans j0; have q1 := (hSq.cell (p := ⟨wr.heap.size, 1, none⟩) hs1).trans j1; go_simp <;> first | with_reducible rfl | rfl)
          simp only [Act.put, List.setIfInBounds_toArray, List.set_cons_zero, List.set_cons_succ]
          refine take_on (i := 3) (v := ?_) rfl rfl (by kernel_rfl) (by kernel_rfl) (by kernel_rfl) (fun _ _ _ h => h) rfl ?_ hHeld ?_
          rotate_left
          · (intro wq hSq; have q0 := (hSq.cell (p := ⟨wr.heap.size, 0, none⟩) hs1).trans j0; have q1 := (hSq.cell (p := ⟨wr.heap.size, 1, none⟩) hs1).trans j1; go_simp <;> first | with_reducible rfl | rfl)
          simp only [Act.put, List.setIfInBounds_toArray, List.set_cons_zero, List.set_cons_succ]
          refine take_on (i := 4) (v := ?_) rfl rfl (by kernel_rfl) (by kernel_rfl) (by kernel_rfl) (fun _ _ _ h => h) rfl ?_ hHeld ?_
          rotate_left
          · (intro wq hSq; have q0 := (hSq.cell (p := ⟨wr.heap.size, 0, none⟩) hs1).trans j0; have q1 := (hSq.cell (p := ⟨wr.heap.size, 1, none⟩) hs1).trans j1; go_simp <;> first | with_reducible rfl | rfl)
          simp only [Act.put, List.setIfInBounds_toArray, List.set_cons_zero, List.set_cons_succ]
          refine take_on (i := 6) (v := ?_) rfl rfl (by kernel_rfl) (by kernel_rfl) (by kernel_rfl) (fun _ _ _ h => h) rfl ?_ hHeld ?_
          rotate_left
          · (intro wq hSq; have q0 := (hSq.cell (p := ⟨wr.heap.size, 0, none⟩) hs1).trans j0; have q1 := (hSq.cell (p := ⟨wr.heap.size, 1, none⟩) hs1).trans j1; go_simp <;> first | with_reducible rfl | rfl)
          simp only [Act.put, List.setIfInBounds_toArray, List.set_cons_zero, List.set_cons_succ]
          refine take_on (i := 7) (v := ?_) rfl rfl (by kernel_rfl) (by kernel_rfl) (by kernel_rfl) (fun _ _ _ h => h) rfl ?_ hHeld ?_
          rotate_left
          · (intro wq hSq; have q0 := (hSq.cell (p := ⟨wr.heap.size, 0, none⟩) hs1).trans j0; have q1 := (hSq.cell (p := ⟨wr.heap.size, 1, none⟩) hs1).trans j1; go_simp <;> first | with_reducible rfl | rfl)
          simp only [Act.put, List.setIfInBounds_toArray, List.set_cons_zero, List.set_cons_succ]
          refine take_two (i := 5) (j := 8) rfl rfl (by kernel_rfl) (fun K hK => ?_) (fun K hK => ?_)
          · go_simp
            skip
            try go_wp2_with fail
            refine hK.out _ _ ?_ (fun hHeld => ?_)
            · exact hHeld.alloc hHeld.size _
            clear hK K
            try simp only [Act.put, List.setIfInBounds_toArray, List.set_cons_zero, List.set_cons_succ]
            refine take_on (i := 9) (v := ?_) rfl rfl (by kernel_rfl) (by kernel_rfl) (by kernel_rfl) (fun _ _ _ h => h) rfl ?_ hHeld ?_
            rotate_left
            · (intro wq hSq; have q0 := (hSq.cell (p := ⟨wr.heap.size, 0, none⟩) hs1).trans j0; have q1 := (hSq.cell (p := ⟨wr.heap.size, 1, none⟩) hs1).trans j1; go_simp <;> first | with_reducible rfl | rfl)
            simp only [Act.put, List.setIfInBounds_toArray, List.set_cons_zero, List.set_cons_succ]
            refine take_one (i := 8) rfl (by kernel_rfl) (fun K hK => ?_)
            go_simp
            skip
            try go_wp2_with fail
            refine hK.out _ _ ?_ (fun hHeld => ?_)
            · exact hHeld.alloc hHeld.size _
            clear hK K
            try simp only [Act.put, List.setIfInBounds_toArray, List.set_cons_zero, List.set_cons_succ]
            refine take_on (i := 10) (v := ?_) rfl rfl (by kernel_rfl) (by kernel_rfl) (by kernel_rfl) (fun _ _ _ h => h) rfl ?_ hHeld ?_
            rotate_left
            · (intro wq hSq; have q0 := (hSq.cell (p := ⟨wr.heap.size, 0, none⟩) hs1).trans j0; have q1 := (hSq.cell (p := ⟨wr.heap.size, 1, none⟩) hs1).trans j1; go_simp <;> first | with_reducible rfl | rfl)
            simp only [Act.put, List.setIfInBounds_toArray, List.set_cons_zero, List.set_cons_succ]
            refine wpAnyH_done (by kernel_rfl) ?_ _
            try go_wp2_with fail
            go_meet
            case rel => exact ⟨_, _, rfl, rfl, hHeld⟩
          · go_simp
            skip
            try go_wp2_with fail
            refine hK.out _ _ ?_ (fun hHeld => ?_)
            · exact hHeld.alloc hHeld.size _
            clear hK K
            try simp only [Act.put, List.setIfInBounds_toArray, List.set_cons_zero, List.set_cons_succ]
            refine take_one (i := 5) rfl (by kernel_rfl) (fun K hK => ?_)
            go_simp
            skip
            try go_wp2_with fail
            refine hK.out _ _ ?_ (fun hHeld => ?_)
            · exact hHeld.alloc hHeld.size _
            clear hK K
            try simp only [Act.put, List.setIfInBounds_toArray, List.set_cons_zero, List.set_cons_succ]
            refine take_on (i := 9) (v := ?_) rfl rfl (by kernel_rfl) (by kernel_rfl) (by kernel_rfl) (fun _ _ _ h => h) rfl ?_ hHeld ?_
            rotate_left
            · (intro wq hSq; have q0 := (hSq.cell (p := ⟨wr.heap.size, 0, none⟩) hs1).trans j0; have q1 := (hSq.cell (p := ⟨wr.heap.size, 1, none⟩) hs1).trans j1; go_simp <;> first | with_reducible rfl | rfl)
            simp only [Act.put, List.setIfInBounds_toArray, List.set_cons_zero, List.set_cons_succ]
            refine take_on (i := 10) (v := ?_) rfl rfl (by kernel_rfl) (by kernel_rfl) (by kernel_rfl) (fun _ _ _ h => h) rfl ?_ hHeld ?_
            rotate_left
            · (intro wq hSq; have q0 := (hSq.cell (p := ⟨wr.heap.size, 0, none⟩) hs1).trans j0; have q1 := (hSq.cell (p := ⟨wr.heap.size, 1, none⟩) hs1).trans j1; go_simp <;> first | with_reducible rfl | rfl)
            simp only [Act.put, List.setIfInBounds_toArray, List.set_cons_zero, List.set_cons_succ]
            refine wpAnyH_done (by kernel_rfl) ?_ _
            try go_wp2_with fail
            go_meet
            case rel => exact ⟨_, _, rfl, rfl, hHeld⟩
        case rest =>
          obtain ⟨P, L, rfl, rfl, hbc⟩ := hcut
          have HK2 := hide_it (HK1.out.below hbc.out)
          have HN2 := hide_it (HN1.out.below hbc.out hs1)
          have hbs2 : w.heap.size ≤ wc.heap.size := HK2.out.bl.size
          have hpl : 8 * (pp.length + 1) ≤ 140737488355328 := by rw [HPL.out]; omega
          have hll : 24 * (ll.length + 1) ≤ 140737488355328 := by rw [HLL.out]; omega
          have HPL2 := hide_it hpl
          have HLL2 := hide_it hll
          clear hbc j0 j1 HK1 HN1 hpl hll
          go_wp2_with (at_builtin; first | (refine wpList_append_oneR wc rfl _ _ rfl w.heap.size u9 pp rfl HK2.out.p (some ⟨P, 0, none⟩) (by first | rfl | (show Value.slice (some ⟨_, 0, none⟩) 1 1 = _; simp)) HPL2.out hbs2 ?_; intro v4 w4 ho4 hg4 hat4; have HK4 := hide_it ((HK2.out.below ((Below.refl _ _).alloc (Nat.le_refl _) _)).rowP hg4 ho4 (by rcases hat4 with e | e; exact .inl e; exact .inr ⟨_, e, by simp⟩)); have HN4 := hide_it (pair_grown (HN2.out.below ((Below.refl _ _).alloc (Nat.le_refl _) _) HN2.out.lt) hg4 (fun e => by have := HIP.out _ e; omega)); have hbs4 : w.heap.size ≤ w4.heap.size := HK4.out.bl.size; clear ho4 hg4 hat4) | (refine wpList_append_oneL w4 rfl _ _ rfl w.heap.size u10 ll rfl HK4.out.l (some ⟨L, 0, none⟩, 1, 1) (by first | rfl | (show Value.slice (some ⟨_, 0, none⟩) 1 1 = _; simp)) HLL2.out hbs4 ?_; intro v5 w5 ho5 hg5 hat5; have HK5 := hide_it ((HK4.out.below ((Below.refl _ _).alloc (Nat.le_refl _) _)).rowL hg5 ho5 (by rcases hat5 with e | e; exact .inl e; exact .inr ⟨_, e, by simp⟩)); have hN5 := pair_grown (HN4.out.below ((Below.refl _ _).alloc (Nat.le_refl _) _) HN4.out.lt) hg5 (fun e => by have := HIL.out _ e; omega); obtain ⟨r0, r1, _, _⟩ := hN5.cells; clear ho5 hg5 hat5 hN5))
          have hpA := pushP_any A1 a2 1000 (xsOf T k) x w5 HK5.out.a (by rw [xsOf_len]; omega)
          go_wp2_with fail
          refine hpA.mono ?_
          rintro e w6 ⟨rfl, ⟨a3, ha3, hq6⟩, ho6⟩
          have HK6 := hide_it (HK5.out.onA ho6 ha3 hq6)
          have hpB := pushR_any B1 b2 1000 pp (some ⟨P, 0, none⟩) w6 HK6.out.b (by rw [HPL.out]; omega)
          clear hpA ha3 hq6 ho6 HK5 r0 r1
          go_wp2_with fail
          refine hpB.mono ?_
          rintro e w7 ⟨rfl, ⟨b3, hb3, hq7⟩, ho7⟩
          have HK7 := hide_it (HK6.out.onB ho7 hb3 hq7)
          have hpC := pushL_any C1 c2 1000 ll (some ⟨L, 0, none⟩, 1, 1) w7 HK7.out.c (by rw [HLL.out]; omega)
          clear hpB hb3 hq7 ho7 HK6
          go_wp2_with fail
          refine hpC.mono ?_
          rintro e w8 ⟨rfl, ⟨c3, hc3, hq8⟩, ho8⟩
          have HK8 := hide_it (HK7.out.onC ho8 hc3 hq8)
          clear hpC hc3 hq8 ho8 HK7
          go_wp2_with fail
          go_roundw
          case rel => exact ⟨k + 1, a3, b3, c3, pp ++ [some ⟨P, 0, none⟩], ll ++ [(some ⟨L, 0, none⟩, 1, 1)], by omega, by go_num, hide_it (by simp [HPL.out]), hide_it (by simp [HLL.out]), hide_it (fun l h => by rcases List.mem_append.1 h with h | h; exact HLS.out l h; rw [List.mem_singleton] at h; exact ⟨L, h⟩), hide_it (fun l h => by rcases List.mem_append.1 h with h | h; exact HPS.out l h; rw [List.mem_singleton] at h; exact ⟨P, h⟩), hide_it (by rw [xsOf_succ, ← HXE.out]; exact HK8.out)⟩
          case measure => simp [intOf]; omega
      · have hki : ¬ (k : Int) < (n : Int) := by omega
        obtain rfl : k = n := by omega
        obtain ⟨ap, cp, hvp, _⟩ := HK.out.p.row
        obtain ⟨al, cl, hvl, _⟩ := HK.out.l.row
        rw [HPL.out] at hvp
        rw [HLL.out] at hvl
        subst hvp
        subst hvl
        go_wp2_with fail
        go_loopw [96] (fun i wr => ∃ (m a2 b2 c2 : Nat), m ≤ k ∧ i = .int .i64 (m : Int) ∧ Hid (Kin w wr A1 a2 B1 b2 C1 c2 (.slice ap k cp) (.slice al k cl) ((xsOf T k).drop m) (pp.drop m) pp (ll.drop m) ll)) (fun i _ => k - (intOf i).toNat)
        case atStart => exact ⟨0, a2, b2, c2, by omega, rfl, HK⟩
        case round =>
          obtain ⟨m, a3, b3, c3, hm, rfl, HM⟩ := hrel
          clear HK
          by_cases hlt : m < k
          · have hkm : (m : Int) < (k : Int) := by omega
            have hw1 : IntKind.i64.wrap ((m : Int) + 1) = (m : Int) + 1 := i64_in (by omega) (by omega)
            obtain ⟨bb, oo, ha, hbb, x1, x2⟩ := HC.out.here HM.out.bl hlt
            subst ha
            have hmp : m < pp.length := by rw [HPL.out]; exact hlt
            have hml : m < ll.length := by rw [HLL.out]; exact hlt
            have hd1 := xsOf_drop T hlt
            have hd2 := List.drop_eq_getElem_cons hmp
            have hd3 := List.drop_eq_getElem_cons hml
            obtain ⟨L, hL⟩ := HLS.out ll[m] (List.getElem_mem _)
            obtain ⟨x, hx⟩ : ∃ x, x = T m := ⟨_, rfl⟩
            obtain ⟨Q, hPm⟩ := HPS.out pp[m] (List.getElem_mem _)
            rw [← hx] at x1 x2 hd1
            rw [hPm] at hd2
            rw [hL] at hd3
            have la := HM.out.a.lt
            have lb := HM.out.b.lt
            have lc := HM.out.c.lt
            have HD1 := hide_it hd1
            have HD2 := hide_it hd2
            have HD3 := hide_it hd3
            have HPM := hide_it hPm
            have HLM := hide_it hL
            have HMP := hide_it hmp
            have HML := hide_it hml
            clear hd1 hd2 hd3 hx hL hPm
            go_wp2_with fail
            obtain ⟨y1, hy1⟩ : ∃ y1, y1 = wr.alloc (.cells #[.int .i64 x.1, .bool x.2] 28) := ⟨_, rfl⟩
            rw [← hy1]
            have hB1 : Below wr.heap.size wr y1 := by rw [hy1]; exact (Below.refl _ _).alloc (Nat.le_refl _) _
            have HN1 := hide_it (show PairB y1 wr.heap.size x by rw [hy1]; exact PairB.new wr x)
            have HM1 := hide_it (HM.out.below hB1)
            have hpA := popP_cons A1 a3 1000 x ((xsOf T k).drop (m + 1)) y1 (by have := HM1.out.a; rwa [HD1.out] at this)
            have hbs1 := hB1.size
            clear hy1 hB1 HM x1 x2
            refine hpA.mono ?_
            rintro e y2 ⟨rfl, hq2, ho2⟩
            have HM2 := hide_it (HM1.out.onA ho2 (.inl rfl) hq2)
            have HN2 := hide_it (pair_only HN1.out ho2 (by omega) (by omega))
            have hbs2 := ho2.size
            have hlt2 := HN2.out.lt
            clear hpA hq2 ho2 HM1 HN1
            go_wp2_with fail
            obtain ⟨z1, hz1⟩ : ∃ z1, z1 = y2.alloc (.cells #[.int .i64 x.1, .bool x.2] 28) := ⟨_, rfl⟩
            rw [← hz1]
            have hB3 : Below y2.heap.size y2 z1 := by rw [hz1]; exact (Below.refl _ _).alloc (Nat.le_refl _) _
            have HO3 := hide_it (show PairB z1 y2.heap.size x by rw [hz1]; exact PairB.new y2 x)
            have HM3 := hide_it (HM2.out.below hB3)
            have HN3 := hide_it (HN2.out.below hB3 hlt2)
            have hpB := popR_cons B1 b3 1000 (some ⟨Q, 0, none⟩) (pp.drop (m + 1)) z1 (by have := HM3.out.b; rwa [HD2.out] at this)
            clear hz1 hB3 HM2 HN2
            refine hpB.mono ?_
            rintro e z2 ⟨rfl, hq4, ho4⟩
            have HM4 := hide_it (HM3.out.onB ho4 (.inl rfl) hq4)
            have HN4 := hide_it (pair_only HN3.out ho4 (by omega) (by omega))
            have HO4 := hide_it (pair_only HO3.out ho4 (by omega) (by omega))
            have hpC : Calls Try.prog 14 #[.pointer (some ⟨C1, 0, none⟩)] z2 fun e w' => e = .returned (.tuple #[.slice (some ⟨L, 0, none⟩) 1 1, .bool true]) ∧ QuL w' C1 c3 1000 (ll.drop (m + 1)) ∧ Only C1 c3 z2 w' := popL_cons C1 c3 1000 (some ⟨L, 0, none⟩, 1, 1) (ll.drop (m + 1)) z2 (by have := HM4.out.c; rwa [HD3.out] at this)
            clear hpB hq4 ho4 HM3 HN3 HO3
            go_wp2_with fail
            refine hpC.mono ?_
            rintro e z3 ⟨rfl, hq5, ho5⟩
            have HM5 := hide_it (HM4.out.onC ho5 (.inl rfl) hq5)
            obtain ⟨s0, s1, _, _⟩ := (pair_only HN4.out ho5 (by omega) (by omega)).cells
            obtain ⟨s2, s3, _, _⟩ := (pair_only HO4.out ho5 (by omega) (by omega)).cells
            have lN := (pair_only HN4.out ho5 (by omega) (by omega)).lt
            have lO := (pair_only HO4.out ho5 (by omega) (by omega)).lt
            obtain ⟨bp, op, hap, lp, hcp⟩ := (rowAtR HM5.out.p).here HMP.out
            obtain ⟨bl, ol, hal, lll, hcl⟩ := (rowAtL HM5.out.l).here HML.out
            have r0 := hcp m HMP.out
            have r1 := hcl m HML.out
            rw [HPM.out] at r0
            rw [HLM.out] at r1
            subst hap
            subst hal
            have t1 : (x.1 == x.1) = true := by simp
            have t2 : (x.2 == x.2) = true := by simp
            clear hpC hq5 ho5 HM4 HN4 HO4 hcp hcl
            go_wp2_with fail
            refine wp_region_held_drew (S := (fun w' => Below z3.heap.size z3 w')) (by kernel_rfl) ?_ (fun hHeld => ?_)
            · exact (Below.refl _ _).drew
            refine take_on (i := 0) (v := ?_) rfl rfl (by kernel_rfl) (by kernel_rfl) (by kernel_rfl) (fun _ _ _ h => h) rfl ?_ hHeld ?_
            rotate_left
            · (intro wq hSq; have q0 := (hSq.cell (p := ⟨wr.heap.size, 0, none⟩) lN).trans s0; have q1 := (hSq.cell (p := ⟨wr.heap.size, 1, none⟩) lN).trans s1; have q2 := (hSq.cell (p := ⟨y2.heap.size, 0, none⟩) lO).trans s2; have q3 := (hSq.cell (p := ⟨y2.heap.size, 1, none⟩) lO).trans s3; have q4 := (hSq.cell (p := ⟨bp, op + m, none⟩) lp).trans r0; have q5 := (hSq.cell (p := ⟨bl, ol + m, none⟩) lll).trans r1; go_simp <;> first | with_reducible rfl | rfl)
            simp only [Act.put, List.setIfInBounds_toArray, List.set_cons_zero, List.set_cons_succ]
            refine take_on (i := 1) (v := ?_) rfl rfl (by kernel_rfl) (by kernel_rfl) (by kernel_rfl) (fun _ _ _ h => h) rfl ?_ hHeld ?_
            rotate_left
            · (intro wq hSq; have q0 := (hSq.cell (p := ⟨wr.heap.size, 0, none⟩) lN).trans s0; have q1 := (hSq.cell (p := ⟨wr.heap.size, 1, none⟩) lN).trans s1; have q2 := (hSq.cell (p := ⟨y2.heap.size, 0, none⟩) lO).trans s2; have q3 := (hSq.cell (p := ⟨y2.heap.size, 1, none⟩) lO).trans s3; have q4 := (hSq.cell (p := ⟨bp, op + m, none⟩) lp).trans r0; have q5 := (hSq.cell (p := ⟨bl, ol + m, none⟩) lll).trans r1; go_simp <;> first | with_reducible rfl | rfl)
            simp only [Act.put, List.setIfInBounds_toArray, List.set_cons_zero, List.set_cons_succ]
            refine take_on (i := 2) (v := ?_) rfl rfl (by kernel_rfl) (by kernel_rfl) (by kernel_rfl) (fun _ _ _ h => h) rfl ?_ hHeld ?_
            rotate_left
            · (intro wq hSq; have q0 := (hSq.cell (p := ⟨wr.heap.size, 0, none⟩) lN).trans s0; have q1 := (hSq.cell (p := ⟨wr.heap.size, 1, none⟩) lN).trans s1; have q2 := (hSq.cell (p := ⟨y2.heap.size, 0, none⟩) lO).trans s2; have q3 := (hSq.cell (p := ⟨y2.heap.size, 1, none⟩) lO).trans s3; have q4 := (hSq.cell (p := ⟨bp, op + m, none⟩) lp).trans r0; have q5 := (hSq.cell (p := ⟨bl, ol + m, none⟩) lll).trans r1; go_simp <;> first | with_reducible rfl | rfl)
            simp only [Act.put, List.setIfInBounds_toArray, List.set_cons_zero, List.set_cons_succ]
            refine take_on (i := 3) (v := ?_) rfl rfl (by kernel_rfl) (by kernel_rfl) (by kernel_rfl) (fun _ _ _ h => h) rfl ?_ hHeld ?_
            rotate_left
            · (intro wq hSq; have q0 := (hSq.cell (p := ⟨wr.heap.size, 0, none⟩) lN).trans s0; have q1 := (hSq.cell (p := ⟨wr.heap.size, 1, none⟩) lN).trans s1; have q2 := (hSq.cell (p := ⟨y2.heap.size, 0, none⟩) lO).trans s2; have q3 := (hSq.cell (p := ⟨y2.heap.size, 1, none⟩) lO).trans s3; have q4 := (hSq.cell (p := ⟨bp, op + m, none⟩) lp).trans r0; have q5 := (hSq.cell (p := ⟨bl, ol + m, none⟩) lll).trans r1; go_simp <;> first | with_reducible rfl | rfl)
            simp only [Act.put, List.setIfInBounds_toArray, List.set_cons_zero, List.set_cons_succ]
            refine take_on (i := 4) (v := ?_) rfl rfl (by kernel_rfl) (by kernel_rfl) (by kernel_rfl) (fun _ _ _ h => h) rfl ?_ hHeld ?_
            rotate_left
            · (intro wq hSq; have q0 := (hSq.cell (p := ⟨wr.heap.size, 0, none⟩) lN).trans s0; have q1 := (hSq.cell (p := ⟨wr.heap.size, 1, none⟩) lN).trans s1; have q2 := (hSq.cell (p := ⟨y2.heap.size, 0, none⟩) lO).trans s2; have q3 := (hSq.cell (p := ⟨y2.heap.size, 1, none⟩) lO).trans s3; have q4 := (hSq.cell (p := ⟨bp, op + m, none⟩) lp).trans r0; have q5 := (hSq.cell (p := ⟨bl, ol + m, none⟩) lll).trans r1; go_simp <;> first | with_reducible rfl | rfl)
            simp only [Act.put, List.setIfInBounds_toArray, List.set_cons_zero, List.set_cons_succ]
            refine take_on (i := 5) (v := ?_) rfl rfl (by kernel_rfl) (by kernel_rfl) (by kernel_rfl) (fun _ _ _ h => h) rfl ?_ hHeld ?_
            rotate_left
            · (intro wq hSq; have q0 := (hSq.cell (p := ⟨wr.heap.size, 0, none⟩) lN).trans s0; have q1 := (hSq.cell (p := ⟨wr.heap.size, 1, none⟩) lN).trans s1; have q2 := (hSq.cell (p := ⟨y2.heap.size, 0, none⟩) lO).trans s2; have q3 := (hSq.cell (p := ⟨y2.heap.size, 1, none⟩) lO).trans s3; have q4 := (hSq.cell (p := ⟨bp, op + m, none⟩) lp).trans r0; have q5 := (hSq.cell (p := ⟨bl, ol + m, none⟩) lll).trans r1; go_simp <;> first | with_reducible rfl | rfl)
            simp only [Act.put, List.setIfInBounds_toArray, List.set_cons_zero, List.set_cons_succ]
            refine take_on (i := 6) (v := ?_) rfl rfl (by kernel_rfl) (by kernel_rfl) (by kernel_rfl) (fun _ _ _ h => h) rfl ?_ hHeld ?_
            rotate_left
            · (intro wq hSq; have q0 := (hSq.cell (p := ⟨wr.heap.size, 0, none⟩) lN).trans s0; have q1 := (hSq.cell (p := ⟨wr.heap.size, 1, none⟩) lN).trans s1; have q2 := (hSq.cell (p := ⟨y2.heap.size, 0, none⟩) lO).trans s2; have q3 := (hSq.cell (p := ⟨y2.heap.size, 1, none⟩) lO).trans s3; have q4 := (hSq.cell (p := ⟨bp, op + m, none⟩) lp).trans r0; have q5 := (hSq.cell (p := ⟨bl, ol + m, none⟩) lll).trans r1; go_simp <;> first | with_reducible rfl | rfl)
            simp only [Act.put, List.setIfInBounds_toArray, List.set_cons_zero, List.set_cons_succ]
            refine take_on (i := 7) (v := ?_) rfl rfl (by kernel_rfl) (by kernel_rfl) (by kernel_rfl) (fun _ _ _ h => h) rfl ?_ hHeld ?_
            rotate_left
            · (intro wq hSq; have q0 := (hSq.cell (p := ⟨wr.heap.size, 0, none⟩) lN).trans s0; have q1 := (hSq.cell (p := ⟨wr.heap.size, 1, none⟩) lN).trans s1; have q2 := (hSq.cell (p := ⟨y2.heap.size, 0, none⟩) lO).trans s2; have q3 := (hSq.cell (p := ⟨y2.heap.size, 1, none⟩) lO).trans s3; have q4 := (hSq.cell (p := ⟨bp, op + m, none⟩) lp).trans r0; have q5 := (hSq.cell (p := ⟨bl, ol + m, none⟩) lll).trans r1; go_simp <;> first | with_reducible rfl | rfl)
            simp only [Act.put, List.setIfInBounds_toArray, List.set_cons_zero, List.set_cons_succ]
            refine take_on (i := 8) (v := ?_) rfl rfl (by kernel_rfl) (by kernel_rfl) (by kernel_rfl) (fun _ _ _ h => h) rfl ?_ hHeld ?_
            rotate_left
            · (intro wq hSq; have q0 := (hSq.cell (p := ⟨wr.heap.size, 0, none⟩) lN).trans s0; have q1 := (hSq.cell (p := ⟨wr.heap.size, 1, none⟩) lN).trans s1; have q2 := (hSq.cell (p := ⟨y2.heap.size, 0, none⟩) lO).trans s2; have q3 := (hSq.cell (p := ⟨y2.heap.size, 1, none⟩) lO).trans s3; have q4 := (hSq.cell (p := ⟨bp, op + m, none⟩) lp).trans r0; have q5 := (hSq.cell (p := ⟨bl, ol + m, none⟩) lll).trans r1; go_simp <;> first | with_reducible rfl | rfl)
            simp only [Act.put, List.setIfInBounds_toArray, List.set_cons_zero, List.set_cons_succ]
            refine take_on (i := 9) (v := ?_) rfl rfl (by kernel_rfl) (by kernel_rfl) (by kernel_rfl) (fun _ _ _ h => h) rfl ?_ hHeld ?_
            rotate_left
            · (intro wq hSq; have q0 := (hSq.cell (p := ⟨wr.heap.size, 0, none⟩) lN).trans s0; have q1 := (hSq.cell (p := ⟨wr.heap.size, 1, none⟩) lN).trans s1; have q2 := (hSq.cell (p := ⟨y2.heap.size, 0, none⟩) lO).trans s2; have q3 := (hSq.cell (p := ⟨y2.heap.size, 1, none⟩) lO).trans s3; have q4 := (hSq.cell (p := ⟨bp, op + m, none⟩) lp).trans r0; have q5 := (hSq.cell (p := ⟨bl, ol + m, none⟩) lll).trans r1; go_simp <;> first | with_reducible rfl | rfl)
            simp only [Act.put, List.setIfInBounds_toArray, List.set_cons_zero, List.set_cons_succ]
            refine take_on (i := 10) (v := ?_) rfl rfl (by kernel_rfl) (by kernel_rfl) (by kernel_rfl) (fun _ _ _ h => h) rfl ?_ hHeld ?_
            rotate_left
            · (intro wq hSq; have q0 := (hSq.cell (p := ⟨wr.heap.size, 0, none⟩) lN).trans s0; have q1 := (hSq.cell (p := ⟨wr.heap.size, 1, none⟩) lN).trans s1; have q2 := (hSq.cell (p := ⟨y2.heap.size, 0, none⟩) lO).trans s2; have q3 := (hSq.cell (p := ⟨y2.heap.size, 1, none⟩) lO).trans s3; have q4 := (hSq.cell (p := ⟨bp, op + m, none⟩) lp).trans r0; have q5 := (hSq.cell (p := ⟨bl, ol + m, none⟩) lll).trans r1; go_simp <;> first | with_reducible rfl | rfl)
            simp only [Act.put, List.setIfInBounds_toArray, List.set_cons_zero, List.set_cons_succ]
            refine take_on (i := 11) (v := ?_) rfl rfl (by kernel_rfl) (by kernel_rfl) (by kernel_rfl) (fun _ _ _ h => h) rfl ?_ hHeld ?_
            rotate_left
            · (intro wq hSq; have q0 := (hSq.cell (p := ⟨wr.heap.size, 0, none⟩) lN).trans s0; have q1 := (hSq.cell (p := ⟨wr.heap.size, 1, none⟩) lN).trans s1; have q2 := (hSq.cell (p := ⟨y2.heap.size, 0, none⟩) lO).trans s2; have q3 := (hSq.cell (p := ⟨y2.heap.size, 1, none⟩) lO).trans s3; have q4 := (hSq.cell (p := ⟨bp, op + m, none⟩) lp).trans r0; have q5 := (hSq.cell (p := ⟨bl, ol + m, none⟩) lll).trans r1; go_simp <;> first | with_reducible rfl | rfl)
            simp only [Act.put, List.setIfInBounds_toArray, List.set_cons_zero, List.set_cons_succ]
            refine take_on (i := 12) (v := ?_) rfl rfl (by kernel_rfl) (by kernel_rfl) (by kernel_rfl) (fun _ _ _ h => h) rfl ?_ hHeld ?_
            rotate_left
            · (intro wq hSq; have q0 := (hSq.cell (p := ⟨wr.heap.size, 0, none⟩) lN).trans s0; have q1 := (hSq.cell (p := ⟨wr.heap.size, 1, none⟩) lN).trans s1; have q2 := (hSq.cell (p := ⟨y2.heap.size, 0, none⟩) lO).trans s2; have q3 := (hSq.cell (p := ⟨y2.heap.size, 1, none⟩) lO).trans s3; have q4 := (hSq.cell (p := ⟨bp, op + m, none⟩) lp).trans r0; have q5 := (hSq.cell (p := ⟨bl, ol + m, none⟩) lll).trans r1; go_simp <;> first | with_reducible rfl | rfl)
            simp only [Act.put, List.setIfInBounds_toArray, List.set_cons_zero, List.set_cons_succ]
            refine take_on (i := 13) (v := ?_) rfl rfl (by kernel_rfl) (by kernel_rfl) (by kernel_rfl) (fun _ _ _ h => h) rfl ?_ hHeld ?_
            rotate_left
            · (intro wq hSq; have q0 := (hSq.cell (p := ⟨wr.heap.size, 0, none⟩) lN).trans s0; have q1 := (hSq.cell (p := ⟨wr.heap.size, 1, none⟩) lN).trans s1; have q2 := (hSq.cell (p := ⟨y2.heap.size, 0, none⟩) lO).trans s2; have q3 := (hSq.cell (p := ⟨y2.heap.size, 1, none⟩) lO).trans s3; have q4 := (hSq.cell (p := ⟨bp, op + m, none⟩) lp).trans r0; have q5 := (hSq.cell (p := ⟨bl, ol + m, none⟩) lll).trans r1; go_simp <;> first | with_reducible rfl | rfl)
            simp only [Act.put, List.setIfInBounds_toArray, List.set_cons_zero, List.set_cons_succ]
            refine take_on (i := 14) (v := ?_) rfl rfl (by kernel_rfl) (by kernel_rfl) (by kernel_rfl) (fun _ _ _ h => h) rfl ?_ hHeld ?_
            rotate_left
            · (intro wq hSq; have q0 := (hSq.cell (p := ⟨wr.heap.size, 0, none⟩) lN).trans s0; have q1 := (hSq.cell (p := ⟨wr.heap.size, 1, none⟩) lN).trans s1; have q2 := (hSq.cell (p := ⟨y2.heap.size, 0, none⟩) lO).trans s2; have q3 := (hSq.cell (p := ⟨y2.heap.size, 1, none⟩) lO).trans s3; have q4 := (hSq.cell (p := ⟨bp, op + m, none⟩) lp).trans r0; have q5 := (hSq.cell (p := ⟨bl, ol + m, none⟩) lll).trans r1; go_simp <;> first | with_reducible rfl | rfl)
            simp only [Act.put, List.setIfInBounds_toArray, List.set_cons_zero, List.set_cons_succ]
            refine take_on (i := 15) (v := ?_) rfl rfl (by kernel_rfl) (by kernel_rfl) (by kernel_rfl) (fun _ _ _ h => h) rfl ?_ hHeld ?_
            rotate_left
            · (intro wq hSq; have q0 := (hSq.cell (p := ⟨wr.heap.size, 0, none⟩) lN).trans s0; have q1 := (hSq.cell (p := ⟨wr.heap.size, 1, none⟩) lN).trans s1; have q2 := (hSq.cell (p := ⟨y2.heap.size, 0, none⟩) lO).trans s2; have q3 := (hSq.cell (p := ⟨y2.heap.size, 1, none⟩) lO).trans s3; have q4 := (hSq.cell (p := ⟨bp, op + m, none⟩) lp).trans r0; have q5 := (hSq.cell (p := ⟨bl, ol + m, none⟩) lll).trans r1; go_simp <;> first | with_reducible rfl | rfl)
            simp only [Act.put, List.setIfInBounds_toArray, List.set_cons_zero, List.set_cons_succ]
            refine take_on (i := 16) (v := ?_) rfl rfl (by kernel_rfl) (by kernel_rfl) (by kernel_rfl) (fun _ _ _ h => h) rfl ?_ hHeld ?_
            rotate_left
            · (intro wq hSq; have q0 := (hSq.cell (p := ⟨wr.heap.size, 0, none⟩) lN).trans s0; have q1 := (hSq.cell (p := ⟨wr.heap.size, 1, none⟩) lN).trans s1; have q2 := (hSq.cell (p := ⟨y2.heap.size, 0, none⟩) lO).trans s2; have q3 := (hSq.cell (p := ⟨y2.heap.size, 1, none⟩) lO).trans s3; have q4 := (hSq.cell (p := ⟨bp, op + m, none⟩) lp).trans r0; have q5 := (hSq.cell (p := ⟨bl, ol + m, none⟩) lll).trans r1; go_simp <;> first | with_reducible rfl | rfl)
            simp only [Act.put, List.setIfInBounds_toArray, List.set_cons_zero, List.set_cons_succ]
            refine take_on (i := 17) (v := ?_) rfl rfl (by kernel_rfl) (by kernel_rfl) (by kernel_rfl) (fun _ _ _ h => h) rfl ?_ hHeld ?_
            rotate_left
            · (intro wq hSq; have q0 := (hSq.cell (p := ⟨wr.heap.size, 0, none⟩) lN).trans s0; have q1 := (hSq.cell (p := ⟨wr.heap.size, 1, none⟩) lN).trans s1; have q2 := (hSq.cell (p := ⟨y2.heap.size, 0, none⟩) lO).trans s2; have q3 := (hSq.cell (p := ⟨y2.heap.size, 1, none⟩) lO).trans s3; have q4 := (hSq.cell (p := ⟨bp, op + m, none⟩) lp).trans r0; have q5 := (hSq.cell (p := ⟨bl, ol + m, none⟩) lll).trans r1; go_simp <;> first | with_reducible rfl | rfl)
            simp only [Act.put, List.setIfInBounds_toArray, List.set_cons_zero, List.set_cons_succ]
            refine take_on (i := 18) (v := ?_) rfl rfl (by kernel_rfl) (by kernel_rfl) (by kernel_rfl) (fun _ _ _ h => h) rfl ?_ hHeld ?_
            rotate_left
            · (intro wq hSq; have q0 := (hSq.cell (p := ⟨wr.heap.size, 0, none⟩) lN).trans s0; have q1 := (hSq.cell (p := ⟨wr.heap.size, 1, none⟩) lN).trans s1; have q2 := (hSq.cell (p := ⟨y2.heap.size, 0, none⟩) lO).trans s2; have q3 := (hSq.cell (p := ⟨y2.heap.size, 1, none⟩) lO).trans s3; have q4 := (hSq.cell (p := ⟨bp, op + m, none⟩) lp).trans r0; have q5 := (hSq.cell (p := ⟨bl, ol + m, none⟩) lll).trans r1; go_simp <;> first | with_reducible rfl | rfl)
            simp only [Act.put, List.setIfInBounds_toArray, List.set_cons_zero, List.set_cons_succ]
            refine take_on (i := 19) (v := ?_) rfl rfl (by kernel_rfl) (by kernel_rfl) (by kernel_rfl) (fun _ _ _ h => h) rfl ?_ hHeld ?_
            rotate_left
            · (intro wq hSq; have q0 := (hSq.cell (p := ⟨wr.heap.size, 0, none⟩) lN).trans s0; have q1 := (hSq.cell (p := ⟨wr.heap.size, 1, none⟩) lN).trans s1; have q2 := (hSq.cell (p := ⟨y2.heap.size, 0, none⟩) lO).trans s2; have q3 := (hSq.cell (p := ⟨y2.heap.size, 1, none⟩) lO).trans s3; have q4 := (hSq.cell (p := ⟨bp, op + m, none⟩) lp).trans r0; have q5 := (hSq.cell (p := ⟨bl, ol + m, none⟩) lll).trans r1; go_simp <;> first | with_reducible rfl | rfl)
            simp only [Act.put, List.setIfInBounds_toArray, List.set_cons_zero, List.set_cons_succ]
            refine take_on (i := 20) (v := ?_) rfl rfl (by kernel_rfl) (by kernel_rfl) (by kernel_rfl) (fun _ _ _ h => h) rfl ?_ hHeld ?_
            rotate_left
            · (intro wq hSq; have q0 := (hSq.cell (p := ⟨wr.heap.size, 0, none⟩) lN).trans s0; have q1 := (hSq.cell (p := ⟨wr.heap.size, 1, none⟩) lN).trans s1; have q2 := (hSq.cell (p := ⟨y2.heap.size, 0, none⟩) lO).trans s2; have q3 := (hSq.cell (p := ⟨y2.heap.size, 1, none⟩) lO).trans s3; have q4 := (hSq.cell (p := ⟨bp, op + m, none⟩) lp).trans r0; have q5 := (hSq.cell (p := ⟨bl, ol + m, none⟩) lll).trans r1; go_simp <;> first | with_reducible rfl | rfl)
            simp only [Act.put, List.setIfInBounds_toArray, List.set_cons_zero, List.set_cons_succ]
            refine take_on (i := 21) (v := ?_) rfl rfl (by kernel_rfl) (by kernel_rfl) (by kernel_rfl) (fun _ _ _ h => h) rfl ?_ hHeld ?_
            rotate_left
            · (intro wq hSq; have q0 := (hSq.cell (p := ⟨wr.heap.size, 0, none⟩) lN).trans s0; have q1 := (hSq.cell (p := ⟨wr.heap.size, 1, none⟩) lN).trans s1; have q2 := (hSq.cell (p := ⟨y2.heap.size, 0, none⟩) lO).trans s2; have q3 := (hSq.cell (p := ⟨y2.heap.size, 1, none⟩) lO).trans s3; have q4 := (hSq.cell (p := ⟨bp, op + m, none⟩) lp).trans r0; have q5 := (hSq.cell (p := ⟨bl, ol + m, none⟩) lll).trans r1; go_simp <;> first | with_reducible rfl | rfl)
            simp only [Act.put, List.setIfInBounds_toArray, List.set_cons_zero, List.set_cons_succ]
            refine take_on (i := 22) (v := ?_) rfl rfl (by kernel_rfl) (by kernel_rfl) (by kernel_rfl) (fun _ _ _ h => h) rfl ?_ hHeld ?_
            rotate_left
            · (intro wq hSq; have q0 := (hSq.cell (p := ⟨wr.heap.size, 0, none⟩) lN).trans s0; have q1 := (hSq.cell (p := ⟨wr.heap.size, 1, none⟩) lN).trans s1; have q2 := (hSq.cell (p := ⟨y2.heap.size, 0, none⟩) lO).trans s2; have q3 := (hSq.cell (p := ⟨y2.heap.size, 1, none⟩) lO).trans s3; have q4 := (hSq.cell (p := ⟨bp, op + m, none⟩) lp).trans r0; have q5 := (hSq.cell (p := ⟨bl, ol + m, none⟩) lll).trans r1; go_simp <;> first | with_reducible rfl | rfl)
            simp only [Act.put, List.setIfInBounds_toArray, List.set_cons_zero, List.set_cons_succ]
            refine take_on (i := 23) (v := ?_) rfl rfl (by kernel_rfl) (by kernel_rfl) (by kernel_rfl) (fun _ _ _ h => h) rfl ?_ hHeld ?_
            rotate_left
            · (intro wq hSq; have q0 := (hSq.cell (p := ⟨wr.heap.size, 0, none⟩) lN).trans s0; have q1 := (hSq.cell (p := ⟨wr.heap.size, 1, none⟩) lN).trans s1; have q2 := (hSq.cell (p := ⟨y2.heap.size, 0, none⟩) lO).trans s2; have q3 := (hSq.cell (p := ⟨y2.heap.size, 1, none⟩) lO).trans s3; have q4 := (hSq.cell (p := ⟨bp, op + m, none⟩) lp).trans r0; have q5 := (hSq.cell (p := ⟨bl, ol + m, none⟩) lll).trans r1; go_simp <;> first | with_reducible rfl | rfl)
            simp only [Act.put, List.setIfInBounds_toArray, List.set_cons_zero, List.set_cons_succ]
            refine take_on (i := 24) (v := ?_) rfl rfl (by kernel_rfl) (by kernel_rfl) (by kernel_rfl) (fun _ _ _ h => h) rfl ?_ hHeld ?_
            rotate_left
            · (intro wq hSq; have q0 := (hSq.cell (p := ⟨wr.heap.size, 0, none⟩) lN).trans s0; have q1 := (hSq.cell (p := ⟨wr.heap.size, 1, none⟩) lN).trans s1; have q2 := (hSq.cell (p := ⟨y2.heap.size, 0, none⟩) lO).trans s2; have q3 := (hSq.cell (p := ⟨y2.heap.size, 1, none⟩) lO).trans s3; have q4 := (hSq.cell (p := ⟨bp, op + m, none⟩) lp).trans r0; have q5 := (hSq.cell (p := ⟨bl, ol + m, none⟩) lll).trans r1; go_simp <;> first | with_reducible rfl | rfl)
            simp only [Act.put, List.setIfInBounds_toArray, List.set_cons_zero, List.set_cons_succ]
            refine take_on (i := 25) (v := ?_) rfl rfl (by kernel_rfl) (by kernel_rfl) (by kernel_rfl) (fun _ _ _ h => h) rfl ?_ hHeld ?_
            rotate_left
            · (intro wq hSq; have q0 := (hSq.cell (p := ⟨wr.heap.size, 0, none⟩) lN).trans s0; have q1 := (hSq.cell (p := ⟨wr.heap.size, 1, none⟩) lN).trans s1; have q2 := (hSq.cell (p := ⟨y2.heap.size, 0, none⟩) lO).trans s2; have q3 := (hSq.cell (p := ⟨y2.heap.size, 1, none⟩) lO).trans s3; have q4 := (hSq.cell (p := ⟨bp, op + m, none⟩) lp).trans r0; have q5 := (hSq.cell (p := ⟨bl, ol + m, none⟩) lll).trans r1; go_simp <;> first | with_reducible rfl | rfl)
            simp only [Act.put, List.setIfInBounds_toArray, List.set_cons_zero, List.set_cons_succ]
            refine take_on (i := 26) (v := ?_) rfl rfl (by kernel_rfl) (by kernel_rfl) (by kernel_rfl) (fun _ _ _ h => h) rfl ?_ hHeld ?_
            rotate_left
            · (intro wq hSq; have q0 := (hSq.cell (p := ⟨wr.heap.size, 0, none⟩) lN).trans s0; have q1 := (hSq.cell (p := ⟨wr.heap.size, 1, none⟩) lN).trans s1; have q2 := (hSq.cell (p := ⟨y2.heap.size, 0, none⟩) lO).trans s2; have q3 := (hSq.cell (p := ⟨y2.heap.size, 1, none⟩) lO).trans s3; have q4 := (hSq.cell (p := ⟨bp, op + m, none⟩) lp).trans r0; have q5 := (hSq.cell (p := ⟨bl, ol + m, none⟩) lll).trans r1; go_simp <;> first | with_reducible rfl | rfl)
            simp only [Act.put, List.setIfInBounds_toArray, List.set_cons_zero, List.set_cons_succ]
            refine take_on (i := 27) (v := ?_) rfl rfl (by kernel_rfl) (by kernel_rfl) (by kernel_rfl) (fun _ _ _ h => h) rfl ?_ hHeld ?_
            rotate_left
            · (intro wq hSq; have q0 := (hSq.cell (p := ⟨wr.heap.size, 0, none⟩) lN).trans s0; have q1 := (hSq.cell (p := ⟨wr.heap.size, 1, none⟩) lN).trans s1; have q2 := (hSq.cell (p := ⟨y2.heap.size, 0, none⟩) lO).trans s2; have q3 := (hSq.cell (p := ⟨y2.heap.size, 1, none⟩) lO).trans s3; have q4 := (hSq.cell (p := ⟨bp, op + m, none⟩) lp).trans r0; have q5 := (hSq.cell (p := ⟨bl, ol + m, none⟩) lll).trans r1; go_simp <;> first | with_reducible rfl | rfl)
            simp only [Act.put, List.setIfInBounds_toArray, List.set_cons_zero, List.set_cons_succ]
            refine take_on (i := 28) (v := ?_) rfl rfl (by kernel_rfl) (by kernel_rfl) (by kernel_rfl) (fun _ _ _ h => h) rfl ?_ hHeld ?_
            rotate_left
            · (intro wq hSq; have q0 := (hSq.cell (p := ⟨wr.heap.size, 0, none⟩) lN).trans s0; have q1 := (hSq.cell (p := ⟨wr.heap.size, 1, none⟩) lN).trans s1; have q2 := (hSq.cell (p := ⟨y2.heap.size, 0, none⟩) lO).trans s2; have q3 := (hSq.cell (p := ⟨y2.heap.size, 1, none⟩) lO).trans s3; have q4 := (hSq.cell (p := ⟨bp, op + m, none⟩) lp).trans r0; have q5 := (hSq.cell (p := ⟨bl, ol + m, none⟩) lll).trans r1; go_simp <;> first | with_reducible rfl | rfl)
            simp only [Act.put, List.setIfInBounds_toArray, List.set_cons_zero, List.set_cons_succ]
            refine take_on (i := 29) (v := ?_) rfl rfl (by kernel_rfl) (by kernel_rfl) (by kernel_rfl) (fun _ _ _ h => h) rfl ?_ hHeld ?_
            rotate_left
            · (intro wq hSq; have q0 := (hSq.cell (p := ⟨wr.heap.size, 0, none⟩) lN).trans s0; have q1 := (hSq.cell (p := ⟨wr.heap.size, 1, none⟩) lN).trans s1; have q2 := (hSq.cell (p := ⟨y2.heap.size, 0, none⟩) lO).trans s2; have q3 := (hSq.cell (p := ⟨y2.heap.size, 1, none⟩) lO).trans s3; have q4 := (hSq.cell (p := ⟨bp, op + m, none⟩) lp).trans r0; have q5 := (hSq.cell (p := ⟨bl, ol + m, none⟩) lll).trans r1; go_simp <;> first | with_reducible rfl | rfl)
            simp only [Act.put, List.setIfInBounds_toArray, List.set_cons_zero, List.set_cons_succ]
            refine take_on (i := 30) (v := ?_) rfl rfl (by kernel_rfl) (by kernel_rfl) (by kernel_rfl) (fun _ _ _ h => h) rfl ?_ hHeld ?_
            rotate_left
            · (intro wq hSq; have q0 := (hSq.cell (p := ⟨wr.heap.size, 0, none⟩) lN).trans s0; have q1 := (hSq.cell (p := ⟨wr.heap.size, 1, none⟩) lN).trans s1; have q2 := (hSq.cell (p := ⟨y2.heap.size, 0, none⟩) lO).trans s2; have q3 := (hSq.cell (p := ⟨y2.heap.size, 1, none⟩) lO).trans s3; have q4 := (hSq.cell (p := ⟨bp, op + m, none⟩) lp).trans r0; have q5 := (hSq.cell (p := ⟨bl, ol + m, none⟩) lll).trans r1; go_simp <;> first | with_reducible rfl | rfl)
            simp only [Act.put, List.setIfInBounds_toArray, List.set_cons_zero, List.set_cons_succ]
            refine take_on (i := 31) (v := ?_) rfl rfl (by kernel_rfl) (by kernel_rfl) (by kernel_rfl) (fun _ _ _ h => h) rfl ?_ hHeld ?_
            rotate_left
            · (intro wq hSq; have q0 := (hSq.cell (p := ⟨wr.heap.size, 0, none⟩) lN).trans s0; have q1 := (hSq.cell (p := ⟨wr.heap.size, 1, none⟩) lN).trans s1; have q2 := (hSq.cell (p := ⟨y2.heap.size, 0, none⟩) lO).trans s2; have q3 := (hSq.cell (p := ⟨y2.heap.size, 1, none⟩) lO).trans s3; have q4 := (hSq.cell (p := ⟨bp, op + m, none⟩) lp).trans r0; have q5 := (hSq.cell (p := ⟨bl, ol + m, none⟩) lll).trans r1; go_simp <;> first | with_reducible rfl | rfl)
            simp only [Act.put, List.setIfInBounds_toArray, List.set_cons_zero, List.set_cons_succ]
            refine take_on (i := 32) (v := ?_) rfl rfl (by kernel_rfl) (by kernel_rfl) (by kernel_rfl) (fun _ _ _ h => h) rfl ?_ hHeld ?_
            rotate_left
            · (intro wq hSq; have q0 := (hSq.cell (p := ⟨wr.heap.size, 0, none⟩) lN).trans s0; have q1 := (hSq.cell (p := ⟨wr.heap.size, 1, none⟩) lN).trans s1; have q2 := (hSq.cell (p := ⟨y2.heap.size, 0, none⟩) lO).trans s2; have q3 := (hSq.cell (p := ⟨y2.heap.size, 1, none⟩) lO).trans s3; have q4 := (hSq.cell (p := ⟨bp, op + m, none⟩) lp).trans r0; have q5 := (hSq.cell (p := ⟨bl, ol + m, none⟩) lll).trans r1; go_simp <;> first | with_reducible rfl | rfl)
            simp only [Act.put, List.setIfInBounds_toArray, List.set_cons_zero, List.set_cons_succ]
            refine take_on (i := 33) (v := ?_) rfl rfl (by kernel_rfl) (by kernel_rfl) (by kernel_rfl) (fun _ _ _ h => h) rfl ?_ hHeld ?_
            rotate_left
            · (intro wq hSq; have q0 := (hSq.cell (p := ⟨wr.heap.size, 0, none⟩) lN).trans s0; have q1 := (hSq.cell (p := ⟨wr.heap.size, 1, none⟩) lN).trans s1; have q2 := (hSq.cell (p := ⟨y2.heap.size, 0, none⟩) lO).trans s2; have q3 := (hSq.cell (p := ⟨y2.heap.size, 1, none⟩) lO).trans s3; have q4 := (hSq.cell (p := ⟨bp, op + m, none⟩) lp).trans r0; have q5 := (hSq.cell (p := ⟨bl, ol + m, none⟩) lll).trans r1; go_simp <;> first | with_reducible rfl | rfl)
            simp only [Act.put, List.setIfInBounds_toArray, List.set_cons_zero, List.set_cons_succ]
            refine take_on (i := 34) (v := ?_) rfl rfl (by kernel_rfl) (by kernel_rfl) (by kernel_rfl) (fun _ _ _ h => h) rfl ?_ hHeld ?_
            rotate_left
            · (intro wq hSq; have q0 := (hSq.cell (p := ⟨wr.heap.size, 0, none⟩) lN).trans s0; have q1 := (hSq.cell (p := ⟨wr.heap.size, 1, none⟩) lN).trans s1; have q2 := (hSq.cell (p := ⟨y2.heap.size, 0, none⟩) lO).trans s2; have q3 := (hSq.cell (p := ⟨y2.heap.size, 1, none⟩) lO).trans s3; have q4 := (hSq.cell (p := ⟨bp, op + m, none⟩) lp).trans r0; have q5 := (hSq.cell (p := ⟨bl, ol + m, none⟩) lll).trans r1; go_simp <;> first | with_reducible rfl | rfl)
            simp only [Act.put, List.setIfInBounds_toArray, List.set_cons_zero, List.set_cons_succ]
            refine take_on (i := 35) (v := ?_) rfl rfl (by kernel_rfl) (by kernel_rfl) (by kernel_rfl) (fun _ _ _ h => h) rfl ?_ hHeld ?_
            rotate_left
            · (intro wq hSq; have q0 := (hSq.cell (p := ⟨wr.heap.size, 0, none⟩) lN).trans s0; have q1 := (hSq.cell (p := ⟨wr.heap.size, 1, none⟩) lN).trans s1; have q2 := (hSq.cell (p := ⟨y2.heap.size, 0, none⟩) lO).trans s2; have q3 := (hSq.cell (p := ⟨y2.heap.size, 1, none⟩) lO).trans s3; have q4 := (hSq.cell (p := ⟨bp, op + m, none⟩) lp).trans r0; have q5 := (hSq.cell (p := ⟨bl, ol + m, none⟩) lll).trans r1; go_simp <;> first | with_reducible rfl | rfl)
            simp only [Act.put, List.setIfInBounds_toArray, List.set_cons_zero, List.set_cons_succ]
            refine take_on (i := 36) (v := ?_) rfl rfl (by kernel_rfl) (by kernel_rfl) (by kernel_rfl) (fun _ _ _ h => h) rfl ?_ hHeld ?_
            rotate_left
            · (intro wq hSq; have q0 := (hSq.cell (p := ⟨wr.heap.size, 0, none⟩) lN).trans s0; have q1 := (hSq.cell (p := ⟨wr.heap.size, 1, none⟩) lN).trans s1; have q2 := (hSq.cell (p := ⟨y2.heap.size, 0, none⟩) lO).trans s2; have q3 := (hSq.cell (p := ⟨y2.heap.size, 1, none⟩) lO).trans s3; have q4 := (hSq.cell (p := ⟨bp, op + m, none⟩) lp).trans r0; have q5 := (hSq.cell (p := ⟨bl, ol + m, none⟩) lll).trans r1; go_simp <;> first | with_reducible rfl | rfl)
            simp only [Act.put, List.setIfInBounds_toArray, List.set_cons_zero, List.set_cons_succ]
            refine take_on (i := 37) (v := ?_) rfl rfl (by kernel_rfl) (by kernel_rfl) (by kernel_rfl) (fun _ _ _ h => h) rfl ?_ hHeld ?_
            rotate_left
            · (intro wq hSq; have q0 := (hSq.cell (p := ⟨wr.heap.size, 0, none⟩) lN).trans s0; have q1 := (hSq.cell (p := ⟨wr.heap.size, 1, none⟩) lN).trans s1; have q2 := (hSq.cell (p := ⟨y2.heap.size, 0, none⟩) lO).trans s2; have q3 := (hSq.cell (p := ⟨y2.heap.size, 1, none⟩) lO).trans s3; have q4 := (hSq.cell (p := ⟨bp, op + m, none⟩) lp).trans r0; have q5 := (hSq.cell (p := ⟨bl, ol + m, none⟩) lll).trans r1; go_simp <;> first | with_reducible rfl | rfl)
            simp only [Act.put, List.setIfInBounds_toArray, List.set_cons_zero, List.set_cons_succ]
            refine wpAnyH_done (by kernel_rfl) ?_ _
            have HM6 := hide_it (HM5.out.below hHeld)
            clear hHeld
            go_wp2_with fail
            go_roundw
            case rel => exact ⟨m + 1, a3, b3, c3, by omega, by go_num, HM6⟩
            case measure => simp [intOf]; omega
          · have hkm : ¬ (m : Int) < (k : Int) := by omega
            have hpE := popR_nil B1 b3 1000 wr (by have := HM.out.b; rwa [List.drop_eq_nil_of_le (by rw [HPL.out]; omega)] at this)
            go_wp2_with fail
            refine hpE.mono ?_
            rintro e w9 ⟨rfl, hq⟩
            have hq2 := hq.symm
            subst hq2
            clear hq hpE
            go_wp2_with fail
            go_ret
            exact ⟨rfl, HM.out.bl⟩

end Go.Proofs.Ytomfhbngpikjeab.queueKinds
