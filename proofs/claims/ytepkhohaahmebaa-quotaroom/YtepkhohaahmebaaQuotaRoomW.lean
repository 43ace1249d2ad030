/- The law on room, walked. -/
import Derived.Test.YtepkhohaahmebaaQa5
namespace Go.Proofs.Ytepkhohaahmebaa.quotaRoom
open Go.RowKit

set_option maxRecDepth 100000 in
set_option maxHeartbeats 4000000 in
theorem walk (o : Opq) (live : Int) (hl : -9223372036854775808 ≤ live ∧ live ≤ 9223372036854775807) (n : Int) (hn : -9223372036854775808 ≤ n ∧ n ≤ 9223372036854775807) (w : World) (_ho : OpqOk w o) :
    Calls Try.prog 6 #[.agg #[.int .i64 o.k, .int .i64 o.i, .int .i64 o.a, .int .i64 o.b, .int .i64 o.c], .int .i64 live, .int .i64 n] w fun e w' => e = .returned (.bool true) ∧ Below w.heap.size w w' := by
  obtain ⟨W0, hW0⟩ : ∃ W, W = w.alloc (.cells #[.int .i64 o.k, .int .i64 o.i, .int .i64 o.a, .int .i64 o.b, .int .i64 o.c] 30) := ⟨_, rfl⟩
  have hx0 : BoxO W0 w.heap.size o := by rw [hW0]; exact BoxO.new w o
  have hb0 : Below w.heap.size w W0 := by rw [hW0]; exact (Below.refl _ _).alloc (Nat.le_refl _) _
  have HX := hide_it hx0
  have HB := hide_it hb0
  have z0 := hb0.size
  clear hx0 hb0
  rcases newA_ways o.a o.b with ⟨e1, e2, a1, a2, a3, a4⟩ | ⟨e1, e2⟩
  · have hmk := made_any o
    have hmok := newA_ok o.a o.b
    rw [e1, e2] at hmk
    rw [e1] at hmok
    have HM := hide_it hmok
    clear e1 e2 hmok
    go_enter Try.func6, Try.ntmps6
    go_wp2_with fail
    rw [← hW0]
    clear hW0
    refine (head_any _).mono ?_
    rintro e w1 ⟨rfl, b1⟩
    obtain ⟨c0, c1, c2, c3, c4⟩ := (HX.out.below b1).cells
    have H1 := hide_it (HX.out.below b1)
    have B1 := hide_it (HB.out.trans (b1.mono z0))
    clear b1
    go_wp2_with fail
    refine (hmk _).mono ?_
    rintro e w2 ⟨b, rfl, hb, p2, b2⟩
    rw [ptrA_t rfl]
    have z1 := B1.out.size
    have S2 := hide_it (show Sa w w2 b w.heap.size ⟨true, o.a, o.b, 0, 0, 0⟩ o from ⟨rfl, p2, HM.out, by omega, H1.out.below b2, B1.out.trans (b2.mono z1)⟩)
    clear hmk c0 c1 c2 c3 c4 p2 b2 H1 B1 hb z1
    have h3 := S2.out.settles live
    go_wp2_with fail
    refine h3.mono ?_
    clear h3
    obtain ⟨A, hA⟩ : ∃ A, A = o.a := ⟨_, rfl⟩
    by_cases hin : 0 ≤ live ∧ live ≤ A
    · rw [show setE ⟨true, o.a, o.b, 0, 0, 0⟩ live = 0 by simp [setE, isB, setFit]; omega, show setA ⟨true, o.a, o.b, 0, 0, 0⟩ live = ⟨true, o.a, o.b, live, 0, 0⟩ by simp [setA, isB, setFit]; omega]
      rintro e w3 ⟨rfl, hs3⟩
      clear S2
      have h4 := hs3.uses
      rw [show live + 0 = live by omega] at h4
      obtain ⟨c0, c1, c2, c3, c4⟩ := hs3.box.cells
      have hq1 : ¬ live < 0 := by omega
      have hq2 : ¬ A < live := by omega
      rw [← hA] at c2
      go_wp2_with fail
      refine h4.mono ?_
      rintro e w4 ⟨rfl, hs4⟩
      clear h4 hs3 c0 c1 c2 c3 c4
      have HS4 := hide_it hs4
      by_cases hn0 : 0 ≤ n ∧ n ≤ 1048576
      · have hn1 : ¬ n < 0 := by omega
        have hn2 : ¬ 1048576 < n := by omega
        have hws : IntKind.i64.wrap (A - live) = A - live := i64_in (by omega) (by omega)
        by_cases hfit : n ≤ A - live
        · have h5 := hs4.charges 0 n
          rw [show chgE ⟨true, o.a, o.b, live, 0, 0⟩ 0 n = 0 by simp [chgE, chgOk, isB, chgFit]; omega, show chgA ⟨true, o.a, o.b, live, 0, 0⟩ 0 n = ⟨true, o.a, o.b, live, n, 0⟩ by simp [chgA, chgOk, isB, chgFit]; omega] at h5
          have hwa : IntKind.i64.wrap (live + n) = live + n := i64_in (by omega) (by omega)
          clear hs4 hn0
          go_wp2_with fail
          refine h5.mono ?_
          rintro e w5 ⟨rfl, hs5⟩
          clear h5
          obtain ⟨c0, c1, c2, c3, c4⟩ := hs5.box.cells
          rw [← hA] at c2
          have h6 := hs5.uses
          simp only at h6
          clear hs5
          go_wp2_with fail
          refine h6.mono ?_
          rintro e w6 ⟨rfl, hs6⟩
          clear h6 c0 c1 c2 c3 c4
          have h7 := hs6.pends
          simp only at h7
          have HS6 := hide_it hs6
          clear hs6
          go_wp2_with fail
          refine h7.mono ?_
          rintro e w7 ⟨rfl, hq⟩
          have hq9 := hq.symm
          subst hq9
          clear hq h7
          go_wp2
          go_ret
          exact ⟨rfl, HS6.out.bel⟩
        · have h5 := hs4.charges 0 n
          rw [show chgE ⟨true, o.a, o.b, live, 0, 0⟩ 0 n = 150 by simp [chgE, chgOk, isB, chgFit]; omega, show chgA ⟨true, o.a, o.b, live, 0, 0⟩ 0 n = ⟨true, o.a, o.b, live, 0, 0⟩ by simp [chgA, chgOk, isB, chgFit]; omega] at h5
          clear hs4 hn0
          go_wp2_with fail
          refine h5.mono ?_
          rintro e w5 ⟨rfl, hs5⟩
          clear h5
          obtain ⟨c0, c1, c2, c3, c4⟩ := hs5.box.cells
          rw [← hA] at c2
          have h6 := hs5.uses
          rw [show live + 0 = live by omega] at h6
          clear hs5
          go_wp2_with fail
          refine h6.mono ?_
          rintro e w6 ⟨rfl, hs6⟩
          clear h6 c0 c1 c2 c3 c4
          have h7 := hs6.pends
          simp only at h7
          have HS6 := hide_it hs6
          clear hs6
          go_wp2_with fail
          refine h7.mono ?_
          rintro e w7 ⟨rfl, hq⟩
          have hq9 := hq.symm
          subst hq9
          clear hq h7
          go_wp2
          go_ret
          exact ⟨rfl, HS6.out.bel⟩
      · by_cases hn1 : n < 0
        · clear hs4
          go_wp2
          go_ret
          exact ⟨rfl, HS4.out.bel⟩
        · have hn2 : 1048576 < n := by omega
          clear hs4
          go_wp2
          go_ret
          exact ⟨rfl, HS4.out.bel⟩
    · rw [show setA ⟨true, o.a, o.b, 0, 0, 0⟩ live = ⟨true, o.a, o.b, 0, 0, 0⟩ by simp [setA, isB, setFit]; omega]
      have hE : (setE ⟨true, o.a, o.b, 0, 0, 0⟩ live == 0) = false := by
        rw [beq_eq_false_iff_ne]
        intro h
        obtain ⟨_, h1, h2⟩ := setE_0 h
        simp only [isB, setFit, decide_eq_true_eq] at h1 h2
        omega
      generalize setE ⟨true, o.a, o.b, 0, 0, 0⟩ live = E at *
      have hE2 : ¬ E = 0 := by simpa using hE
      clear hE
      rintro e w3 ⟨rfl, hs3⟩
      clear S2
      have h4 := hs3.uses
      rw [show (0 : Int) + 0 = 0 by omega] at h4
      obtain ⟨c0, c1, c2, c3, c4⟩ := hs3.box.cells
      rw [← hA] at c2
      by_cases hq1 : live < 0
      · clear hs3 hin
        go_wp2_with fail
        refine h4.mono ?_
        rintro e w4 ⟨rfl, hs4⟩
        have HS4 := hide_it hs4
        clear h4 hs4 c0 c1 c2 c3 c4
        go_wp2
        go_ret
        exact ⟨by simp [hE2], HS4.out.bel⟩
      · have hq2 : A < live := by omega
        clear hs3 hin
        go_wp2_with fail
        refine h4.mono ?_
        rintro e w4 ⟨rfl, hs4⟩
        have HS4 := hide_it hs4
        clear h4 hs4 c0 c1 c2 c3 c4
        go_wp2
        go_ret
        exact ⟨by simp [hE2], HS4.out.bel⟩
  · have hmk := made_any o
    rw [e1, e2] at hmk
    clear e1 e2
    go_enter Try.func6, Try.ntmps6
    go_wp2_with fail
    rw [← hW0]
    clear hW0
    refine (head_any _).mono ?_
    rintro e w1 ⟨rfl, b1⟩
    obtain ⟨c0, c1, c2, c3, c4⟩ := (HX.out.below b1).cells
    have B1 := hide_it (HB.out.trans (b1.mono z0))
    clear b1
    go_wp2_with fail
    refine (hmk _).mono ?_
    rintro e w2 ⟨b, rfl, hb, p2, b2⟩
    rw [show ptrA noAc b = .pointer none from rfl]
    have z1 := B1.out.size
    have B2 := hide_it (B1.out.trans (b2.mono z1))
    clear hmk c0 c1 c2 c3 c4 p2 b2 B1 hb z1
    go_wp2
    go_ret
    exact ⟨rfl, B2.out⟩
end Go.Proofs.Ytepkhohaahmebaa.quotaRoom
