/- The law on limits that are never passed, walked. -/
import Derived.Test.YtepkhohaahmebaaQa5
namespace Go.Proofs.Ytepkhohaahmebaa.quotaNever
open Go.RowKit

theorem uses2 {w0 w : World} {b d : Nat} {c : Ac} {o : Opq} (h : Sa w0 w b d c o) : Calls Try.prog 18 #[.pointer (some ⟨b, 0, none⟩)] w fun e w' => e = .returned (.int .i64 (c.l + c.p)) ∧ Sa w0 w' b d c o ∧ Below w.heap.size w w' := by
  have h1 := used_any c h.ok b w h.pk
  rw [ptrA_t h.there] at h1
  exact h1.mono fun e w' ⟨h2, h3⟩ => ⟨h2, h.below h3, h3⟩
theorem step_ways (k x y : Int) {c : Ac} (hc : AcOk c) : ∃ (T : Bool) (c' : Ac), (stepE k x y c == 0) = T ∧ stepA k x y c = c' ∧ c'.q = c.q ∧ c'.m = c.m ∧ AcOk c' ∧ (T = false → c' = c) :=
  ⟨_, _, rfl, rfl, (stepA_q k x y c).1, (stepA_q k x y c).2, stepA_ok hc k x y, fun h => stepA_no k x y c (by simpa using h)⟩

set_option maxRecDepth 100000 in
set_option maxHeartbeats 16000000 in
theorem walk (o : Opq) (a : Option Addr) (n cp : Nat) (A : Nat → Opq) (w : World) (_ho : OpqOk w o) (ha : CameOpq w a n A) :
    Calls Try.prog 4 #[.agg #[.int .i64 o.k, .int .i64 o.i, .int .i64 o.a, .int .i64 o.b, .int .i64 o.c], .slice a n cp] w fun e w' => e = .returned (.bool true) ∧ Below w.heap.size w w' := by
  have hn := ha.size
  have hrow := hide_it ha.row
  clear ha
  obtain ⟨W0, hW0⟩ : ∃ W, W = w.alloc (.cells #[.int .i64 o.k, .int .i64 o.i, .int .i64 o.a, .int .i64 o.b, .int .i64 o.c] 30) := ⟨_, rfl⟩
  have hx0 : BoxO W0 w.heap.size o := by rw [hW0]; exact BoxO.new w o
  have hb0 : Below w.heap.size w W0 := by rw [hW0]; exact (Below.refl _ _).alloc (Nat.le_refl _) _
  have HX := hide_it hx0
  have HB := hide_it hb0
  have z0 := hb0.size
  clear hx0 hb0
  rcases newA_ways o.a o.b with ⟨e1, e2, a1, a2, a3, a4⟩ | ⟨e1, e2⟩
  · have hmk := made_any o
    have hmok := newA_ok o.a o.b
    rw [e1, e2] at hmk
    rw [e1] at hmok
    have HM := hide_it hmok
    clear e1 e2 hmok
    go_enter Try.func4, Try.ntmps4
    go_wp2_with fail
    rw [← hW0]
    clear hW0
    refine (head_any _).mono ?_
    rintro e w1 ⟨rfl, b1⟩
    obtain ⟨c0, c1, c2, c3, c4⟩ := (HX.out.below b1).cells
    have H1 := hide_it (HX.out.below b1)
    have B1 := hide_it (HB.out.trans (b1.mono z0))
    clear b1
    go_wp2_with fail
    refine (hmk _).mono ?_
    rintro e w2 ⟨b, rfl, hb, p2, b2⟩
    rw [ptrA_t rfl]
    have z1 := B1.out.size
    have S2 := hide_it (show Sa w w2 b w.heap.size ⟨true, o.a, o.b, 0, 0, 0⟩ o from ⟨rfl, p2, HM.out, by omega, H1.out.below b2, B1.out.trans (b2.mono z1)⟩)
    clear hmk c0 c1 c2 c3 c4 p2 b2 H1 B1 hb z1
    obtain ⟨d, hd⟩ : ∃ d, d = w.heap.size := ⟨_, rfl⟩
    rw [← hd] at S2 ⊢
    clear hd
    go_wp2_with fail
    go_loopw [29] (fun i wr => ∃ (k : Nat) (c : Ac), k ≤ n ∧ i = .int .i64 k ∧ Sa w wr b d c o ∧ c.q = o.a ∧ c.m = o.b) (fun i _ => n - (intOf i).toNat)
    case atStart => exact ⟨0, _, by omega, rfl, S2.out, rfl, rfl⟩
    case round =>
      clear S2
      obtain ⟨k, c, hk, rfl, hS, hcq, hcm⟩ := hrel
      by_cases hlt : k < n
      · have hki : (k : Int) < (n : Int) := by omega
        have hw1 : IntKind.i64.wrap ((k : Int) + 1) = (k : Int) + 1 := i64_in (by omega) (by omega)
        obtain ⟨b2, o2, rfl, l2, c0, c1, c2, c3, c4⟩ := hrow.out.here hlt
        have d0 := (hS.bel.cell (p := ⟨b2, o2 + k * 5, none⟩) l2).trans c0
        have d1 := (hS.bel.cell (p := ⟨b2, o2 + k * 5 + 1, none⟩) l2).trans c1
        have d2 := (hS.bel.cell (p := ⟨b2, o2 + k * 5 + 2, none⟩) l2).trans c2
        have d3 := (hS.bel.cell (p := ⟨b2, o2 + k * 5 + 3, none⟩) l2).trans c3
        have d4 := (hS.bel.cell (p := ⟨b2, o2 + k * 5 + 4, none⟩) l2).trans c4
        clear c0 c1 c2 c3 c4
        generalize A k = O at d0 d1 d2 d3 d4
        obtain ⟨T, c', hT, hc', hq', hm', hok', hno⟩ := step_ways O.k O.a O.b hS.ok
        obtain ⟨W, hW⟩ : ∃ W, W = wr.alloc (.cells #[.int .i64 O.k, .int .i64 O.i, .int .i64 O.a, .int .i64 O.b, .int .i64 O.c] 30) := ⟨_, rfl⟩
        have hBw : Below wr.heap.size wr W := by rw [hW]; exact (Below.refl _ _).alloc (Nat.le_refl _) _
        have hBx : BoxO W wr.heap.size O := by rw [hW]; exact BoxO.new wr O
        have HX := hide_it hBx
        have HS := hide_it (hS.below hBw)
        clear hS hBx hBw
        go_wp2_with fail
        try rw [← hW]
        clear hW d0 d1 d2 d3 d4
        refine (uses2 HS.out).mono ?_
        rintro e w3 ⟨rfl, hs3, b3⟩
        have HX3 := hide_it (HX.out.below b3)
        have HS3 := hide_it hs3
        clear hs3 b3 HS HX
        go_wp2_with fail
        refine HS3.out.pends.mono ?_
        rintro e w4 ⟨rfl, hq⟩
        have hq9 := hq.symm
        subst hq9
        clear hq
        go_wp2_with fail
        refine HS3.out.opens.mono ?_
        rintro e w4 ⟨rfl, hq⟩
        have hq9 := hq.symm
        subst hq9
        clear hq
        obtain ⟨c0, c1, c2, c3, c4⟩ := HX3.out.cells
        go_wp2_with fail
        refine (HS3.out.ones O.k O.i O.a O.b O.c).mono ?_
        rintro e w4 ⟨rfl, hs4⟩
        rw [hT]
        rw [hc'] at hs4
        have HS4 := hide_it hs4
        clear hs4 HS3 HX3 hT hc' c0 c1 c2 c3 c4
        go_wp2_with fail
        refine HS4.out.uses.mono ?_
        rintro e w5 ⟨rfl, hs5⟩
        have HS5 := hide_it hs5
        clear hs5 HS4
        go_wp2_with fail
        refine HS5.out.pends.mono ?_
        rintro e w6 ⟨rfl, hq⟩
        have hq9 := hq.symm
        subst hq9
        clear hq
        go_wp2_with fail
        refine HS5.out.opens.mono ?_
        rintro e w6 ⟨rfl, hq⟩
        have hq9 := hq.symm
        subst hq9
        clear hq
        obtain ⟨-, -, x2, x3, -⟩ := HS5.out.box.cells
        have g1 := hok'.l
        have g2 := hok'.p
        have g3 := hok'.lp
        have g4 := hok'.o
        rw [hq', hcq] at g3
        rw [hm', hcm] at g4
        have hcq2 := hq'.trans hcq
        have hcm2 := hm'.trans hcm
        clear hq' hm' hcq hcm hok'
        have f1 : ¬ c'.l + c'.p < 0 := by omega
        have f2 : ¬ o.a < c'.l + c'.p := by omega
        have f3 : ¬ c'.p < 0 := by omega
        have f4 : ¬ c'.l + c'.p < c'.p := by omega
        have f5 : ¬ c'.o < 0 := by omega
        have f6 : ¬ o.b < c'.o := by omega
        clear g1 g2 g3 g4
        cases T
        · have h9 := hno rfl
          subst h9
          clear hno
          generalize c'.l + c'.p = U at *
          go_wp2
          go_roundw
          case rel => exact ⟨k + 1, c', by omega, by go_num, HS5.out, hcq2, hcm2⟩
          case measure => simp [intOf]; omega
        · clear hno
          generalize c'.l + c'.p = U at *
          go_wp2
          go_roundw
          case rel => exact ⟨k + 1, c', by omega, by go_num, HS5.out, hcq2, hcm2⟩
          case measure => simp [intOf]; omega
      · have HS := hide_it hS.bel
        clear hS hcq hcm
        go_wp2
        go_ret
        exact ⟨rfl, HS.out⟩
  · have hmk := made_any o
    rw [e1, e2] at hmk
    clear e1 e2
    go_enter Try.func4, Try.ntmps4
    go_wp2_with fail
    rw [← hW0]
    clear hW0
    refine (head_any _).mono ?_
    rintro e w1 ⟨rfl, b1⟩
    obtain ⟨c0, c1, c2, c3, c4⟩ := (HX.out.below b1).cells
    have B1 := hide_it (HB.out.trans (b1.mono z0))
    clear b1
    go_wp2_with fail
    refine (hmk _).mono ?_
    rintro e w2 ⟨b, rfl, hb, p2, b2⟩
    rw [show ptrA noAc b = .pointer none from rfl]
    have z1 := B1.out.size
    have B2 := hide_it (B1.out.trans (b2.mono z1))
    clear hmk c0 c1 c2 c3 c4 p2 b2 B1 hb z1
    go_wp2
    go_ret
    exact ⟨rfl, B2.out⟩
end Go.Proofs.Ytepkhohaahmebaa.quotaNever
