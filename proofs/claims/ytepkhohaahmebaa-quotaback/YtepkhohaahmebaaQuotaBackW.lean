/- The law on there and back, walked. -/
import Derived.Test.YtepkhohaahmebaaQa5
import Derived.Test.YtepkhohaahmebaaOpenPar
namespace Go.Proofs.Ytepkhohaahmebaa.quotaBack
open Go.RowKit

theorem eta_t {d : Ac} (h : d.t = true) : (⟨true, d.q, d.m, d.l, d.p, d.o⟩ : Ac) = d := by
  cases d; simp only at h; subst h; rfl
theorem beg_ways {c : Ac} (hc : AcOk c) (ht : c.t = true) : (begE c = 0 ∧ ∃ c1, begA c = c1 ∧ c1.o = c.o + 1 ∧ endE c1 0 = 0 ∧ endA c1 0 = c) ∨ (¬ begE c = 0 ∧ begA c = c) := by
  by_cases h : c.o < c.m
  · have h1 := hc.o
    have h2 := hc.p
    have h3 : ¬ c.o + 1 = 0 := by omega
    have h4 : c.o + 1 - 1 = c.o := by omega
    refine .inl ⟨by simp [begE, ht, h], { c with o := c.o + 1 }, by simp [begA, ht, h], rfl, ?_, ?_⟩
    · simp [endE, ht, endOk, h2, h3]
    · simp [endA, ht, endOk, h2, h3, h4]
      exact eta_t ht
  · exact .inr ⟨by simp [begE, ht, h], by simp [begA, ht, h]⟩
theorem chg_ways {c : Ac} (hc : AcOk c) (ht : c.t = true) (x y : Int) : (chgE c x y = 0 ∧ (0 ≤ x ∧ x ≤ c.p) ∧ (0 ≤ y ∧ y ≤ 1048576) ∧ ∃ c1, chgA c x y = c1 ∧ c1.l + c1.p = c.l + c.p - x + y ∧ chgE c1 y x = 0 ∧ chgA c1 y x = c) ∨ (¬ chgE c x y = 0 ∧ chgA c x y = c) := by
  by_cases h : (chgOk c x y && chgFit c x y) = true
  · simp only [Bool.and_eq_true] at h
    obtain ⟨h1, h2⟩ := h
    have h3 := h1
    have h4 := h2
    simp only [chgOk, isB, Bool.and_eq_true, decide_eq_true_eq, chgFit] at h3 h4
    have l1 := hc.lp
    have l2 := hc.l
    have l3 := hc.q
    have k1 : y ≤ c.p - x + y := by omega
    have k2 : x ≤ 1048576 := by omega
    have k3 : c.p - x + y - y + x = c.p := by omega
    refine .inl ⟨by simp [chgE, ht, h1, h2], h3.1, h3.2, { c with p := c.p - x + y }, by simp [chgA, ht, h1, h2], by simp only; omega, ?_, ?_⟩
    · simp [chgE, ht, chgOk, isB, chgFit, h3.1.1, h3.2.1, k1, k2, l1]
    · simp [chgA, ht, chgOk, isB, chgFit, h3.1.1, h3.2.1, k1, k2, l1]
      exact eta_t ht
  · have hE : ¬ chgE c x y = 0 := by
      intro h2
      obtain ⟨_, h3, h4⟩ := chgE_0 h2
      exact h (by simp [h3, h4])
    refine .inr ⟨hE, ?_⟩
    have h5 : ¬ (c.t && chgOk c x y && chgFit c x y) = true := by simpa [ht] using h
    unfold chgA
    rw [if_neg h5]

set_option maxRecDepth 100000 in
set_option maxHeartbeats 32000000 in
theorem walk (o : Opq) (a : Option Addr) (n cp : Nat) (A : Nat → Opq) (x : Par) (w : World) (_ho : OpqOk w o) (ha : CameOpq w a n A) (_hx : ParOk w x) :
    Calls Try.prog 5 #[.agg #[.int .i64 o.k, .int .i64 o.i, .int .i64 o.a, .int .i64 o.b, .int .i64 o.c], .slice a n cp, .agg #[.int .i64 x.u, .int .i64 x.v]] w fun e w' => e = .returned (.bool true) ∧ Below w.heap.size w w' := by
  have hn := ha.size
  have hrow := hide_it ha.row
  clear ha _hx
  obtain ⟨u, v⟩ := x
  simp only
  obtain ⟨W0, hW0⟩ : ∃ W, W = (w.alloc (.cells #[.int .i64 o.k, .int .i64 o.i, .int .i64 o.a, .int .i64 o.b, .int .i64 o.c] 30)).alloc (.cells #[.int .i64 u, .int .i64 v] 47) := ⟨_, rfl⟩
  have hx0 : BoxO W0 w.heap.size o := by rw [hW0]; unfold BoxO; rw [Below.heap_alloc _ _ _ (by simp)]; exact heap_alloc_new w _
  have hy0 : W0.heap[w.heap.size + 1]? = some (.cells #[.int .i64 u, .int .i64 v] 47 (0, 0)) := by
    have h9 := heap_alloc_new (w.alloc (.cells #[.int .i64 o.k, .int .i64 o.i, .int .i64 o.a, .int .i64 o.b, .int .i64 o.c] 30)) (.cells #[.int .i64 u, .int .i64 v] 47)
    rw [show (w.alloc (.cells #[.int .i64 o.k, .int .i64 o.i, .int .i64 o.a, .int .i64 o.b, .int .i64 o.c] 30)).heap.size = w.heap.size + 1 by simp] at h9
    rw [hW0]; exact h9
  have hs0 : W0.heap.size = w.heap.size + 1 + 1 := by rw [hW0]; simp
  have hb0 : Below w.heap.size w W0 := by rw [hW0]; exact ((Below.refl _ _).alloc (Nat.le_refl _) _).alloc (by simp) _
  have HX := hide_it hx0
  have HB := hide_it hb0
  have z0 := hb0.size
  clear hx0 hb0
  rcases newA_ways o.a o.b with ⟨e1, e2, a1, a2, a3, a4⟩ | ⟨e1, e2⟩
  · have hmk := made_any o
    have hmok := newA_ok o.a o.b
    rw [e1, e2] at hmk
    rw [e1] at hmok
    have HM := hide_it hmok
    clear e1 e2 hmok
    go_enter Try.func5, Try.ntmps5
    go_wp2_with fail
    rw [← hW0]
    clear hW0
    refine (head_any _).mono ?_
    rintro e w1 ⟨rfl, b1⟩
    have hy1 := (b1.block (w.heap.size + 1) (by omega)).trans hy0
    clear hy0
    have y0 : w1.cell? ⟨w.heap.size + 1, 0, none⟩ = some (.int .i64 u) := cell_of_row _ _ _ _ _ _ hy1
    have y1 : w1.cell? ⟨w.heap.size + 1, 1, none⟩ = some (.int .i64 v) := cell_of_row _ _ _ _ _ _ hy1
    clear hy1
    obtain ⟨c0, c1, c2, c3, c4⟩ := (HX.out.below b1).cells
    have H1 := hide_it (HX.out.below b1)
    have B1 := hide_it (HB.out.trans (b1.mono z0))
    clear b1
    go_wp2_with fail
    refine (hmk _).mono ?_
    rintro e w2 ⟨b, rfl, hb, p2, b2⟩
    rw [ptrA_t rfl]
    have z1 := B1.out.size
    have S2 := hide_it (show Sa w w2 b w.heap.size ⟨true, o.a, o.b, 0, 0, 0⟩ o from ⟨rfl, p2, HM.out, by omega, H1.out.below b2, B1.out.trans (b2.mono z1)⟩)
    clear hmk c0 c1 c2 c3 c4 p2 b2 H1 B1 hb z1 y0 y1 hs0
    obtain ⟨d, hd⟩ : ∃ d, d = w.heap.size := ⟨_, rfl⟩
    rw [← hd] at S2 ⊢
    clear hd
    go_wp2_with fail
    go_loopw [33] (fun i wr => ∃ (k : Nat) (c : Ac), k ≤ n ∧ i = .int .i64 k ∧ Sa w wr b d c o) (fun i _ => n - (intOf i).toNat)
    case atStart => exact ⟨0, _, by omega, rfl, S2.out⟩
    case round =>
      clear S2
      obtain ⟨k, c, hk, rfl, hS⟩ := hrel
      by_cases hlt : k < n
      · have hki : (k : Int) < (n : Int) := by omega
        have hw1 : IntKind.i64.wrap ((k : Int) + 1) = (k : Int) + 1 := i64_in (by omega) (by omega)
        obtain ⟨b2, o2, rfl, l2, c0, c1, c2, c3, c4⟩ := hrow.out.here hlt
        have d0 := (hS.bel.cell (p := ⟨b2, o2 + k * 5, none⟩) l2).trans c0
        have d1 := (hS.bel.cell (p := ⟨b2, o2 + k * 5 + 1, none⟩) l2).trans c1
        have d2 := (hS.bel.cell (p := ⟨b2, o2 + k * 5 + 2, none⟩) l2).trans c2
        have d3 := (hS.bel.cell (p := ⟨b2, o2 + k * 5 + 3, none⟩) l2).trans c3
        have d4 := (hS.bel.cell (p := ⟨b2, o2 + k * 5 + 4, none⟩) l2).trans c4
        clear c0 c1 c2 c3 c4
        generalize A k = O at d0 d1 d2 d3 d4
        obtain ⟨W, hW⟩ : ∃ W, W = wr.alloc (.cells #[.int .i64 O.k, .int .i64 O.i, .int .i64 O.a, .int .i64 O.b, .int .i64 O.c] 30) := ⟨_, rfl⟩
        have hBw : Below wr.heap.size wr W := by rw [hW]; exact (Below.refl _ _).alloc (Nat.le_refl _) _
        have hBx : BoxO W wr.heap.size O := by rw [hW]; exact BoxO.new wr O
        have HS := hide_it (hS.below hBw)
        clear hS hBw
        go_wp2_with fail
        try rw [← hW]
        clear hW d0 d1 d2 d3 d4
        obtain ⟨c0, c1, c2, c3, c4⟩ := hBx.cells
        clear hBx
        go_wp2_with fail
        refine (HS.out.ones O.k O.i O.a O.b O.c).mono ?_
        rintro e w4 ⟨rfl, hs4⟩
        have HS4 := hide_it hs4
        clear hs4 HS c0 c1 c2 c3 c4
        generalize (stepE O.k O.a O.b c == 0) = T at *
        generalize stepA O.k O.a O.b c = c' at *
        go_wp2
        go_roundw
        case rel => exact ⟨k + 1, c', by omega, by go_num, HS4.out⟩
        case measure => simp [intOf]; omega
      · clear hrow
        obtain ⟨l1, l2, l3⟩ : (0 ≤ c.l ∧ 0 ≤ c.p) ∧ (c.l + c.p ≤ 1048576) ∧ (0 ≤ c.o ∧ c.o ≤ 32) := ⟨⟨hS.ok.l, hS.ok.p⟩, Int.le_trans hS.ok.lp hS.ok.q.2, hS.ok.o.1, Int.le_trans hS.ok.o.2 hS.ok.m.2⟩
        have hbw := beg_ways hS.ok hS.there
        have hcw := chg_ways hS.ok hS.there u v
        have HS := hide_it hS
        clear hS
        have hwo : IntKind.i64.wrap (c.o + 1) = c.o + 1 := i64_in (by omega) (by omega)
        obtain ⟨U, hU⟩ : ∃ U, U = c.l + c.p := ⟨_, rfl⟩
        go_wp2_with fail
        refine HS.out.uses.mono ?_
        rintro e w3 ⟨rfl, hs3⟩
        rw [← hU]
        clear HS
        have HS := hide_it hs3
        clear hs3
        go_wp2_with fail
        refine HS.out.pends.mono ?_
        rintro e w4 ⟨rfl, hq⟩
        have hq9 := hq.symm
        subst hq9
        clear hq
        go_wp2_with fail
        refine HS.out.opens.mono ?_
        rintro e w4 ⟨rfl, hq⟩
        have hq9 := hq.symm
        subst hq9
        clear hq
        go_wp2_with fail
        refine HS.out.begins.mono ?_
        rintro e w4 ⟨rfl, hs4⟩
        clear HS
        rcases hbw with ⟨e1, c1, e2, e3, e4, e5⟩ | ⟨e1, e2⟩
        · rw [e1]
          rw [e2] at hs4
          have HS := hide_it hs4
          clear hs4 e1 e2
          go_wp2_with fail
          refine HS.out.opens.mono ?_
          rintro e w5 ⟨rfl, hq⟩
          have hq9 := hq.symm
          subst hq9
          clear hq
          rw [e3]
          go_wp2_with fail
          refine (HS.out.ends 0).mono ?_
          rintro e w5 ⟨rfl, hs5⟩
          rw [e4]
          rw [e5] at hs5
          clear HS
          have HS := hide_it hs5
          clear hs5 e3 e4 e5
          go_wp2_with fail
          refine (HS.out.charges u v).mono ?_
          rintro e w6 ⟨rfl, hs6⟩
          clear HS
          rcases hcw with ⟨e1, m1, m2, c2, e2, e3, e4, e5⟩ | ⟨e1, e2⟩
          · rw [e1]
            rw [e2] at hs6
            have HS := hide_it hs6
            clear hs6 e1 e2
            have hwa : IntKind.i64.wrap (U - u) = U - u := i64_in (by omega) (by omega)
            have hwb : IntKind.i64.wrap (U - u + v) = U - u + v := i64_in (by omega) (by omega)
            go_wp2_with fail
            refine HS.out.uses.mono ?_
            rintro e w7 ⟨rfl, hs7⟩
            rw [e3, ← hU]
            clear HS
            have HS := hide_it hs7
            clear hs7
            go_wp2_with fail
            refine (HS.out.charges v u).mono ?_
            rintro e w8 ⟨rfl, hs8⟩
            rw [e4]
            rw [e5] at hs8
            clear HS
            have HS := hide_it hs8
            clear hs8 e3 e4 e5 hwa hwb m1 m2
            go_wp2_with fail
            refine HS.out.uses.mono ?_
            rintro e w8 ⟨rfl, hs8⟩
            rw [← hU]
            clear HS
            have HS := hide_it hs8
            clear hs8
            go_wp2_with fail
            refine HS.out.pends.mono ?_
            rintro e w9 ⟨rfl, hq⟩
            have hq9 := hq.symm
            subst hq9
            clear hq
            go_wp2_with fail
            refine HS.out.opens.mono ?_
            rintro e w9 ⟨rfl, hq⟩
            have hq9 := hq.symm
            subst hq9
            clear hq
            go_wp2
            go_ret
            exact ⟨by simp, HS.out.bel⟩
          · rw [e2] at hs6
            generalize chgE c u v = E at *
            have HS := hide_it hs6
            clear hs6 e2
            go_wp2_with fail
            refine HS.out.uses.mono ?_
            rintro e w8 ⟨rfl, hs8⟩
            rw [← hU]
            clear HS
            have HS := hide_it hs8
            clear hs8
            go_wp2_with fail
            refine HS.out.pends.mono ?_
            rintro e w9 ⟨rfl, hq⟩
            have hq9 := hq.symm
            subst hq9
            clear hq
            go_wp2_with fail
            refine HS.out.opens.mono ?_
            rintro e w9 ⟨rfl, hq⟩
            have hq9 := hq.symm
            subst hq9
            clear hq
            go_wp2
            go_ret
            exact ⟨by simp, HS.out.bel⟩
        · rw [e2] at hs4
          generalize begE c = E0 at *
          have HS := hide_it hs4
          clear hs4 e2
          go_wp2_with fail
          refine (HS.out.charges u v).mono ?_
          rintro e w6 ⟨rfl, hs6⟩
          clear HS
          rcases hcw with ⟨e1, m1, m2, c2, e2, e3, e4, e5⟩ | ⟨e1, e2⟩
          · rw [e1]
            rw [e2] at hs6
            have HS := hide_it hs6
            clear hs6 e1 e2
            have hwa : IntKind.i64.wrap (U - u) = U - u := i64_in (by omega) (by omega)
            have hwb : IntKind.i64.wrap (U - u + v) = U - u + v := i64_in (by omega) (by omega)
            go_wp2_with fail
            refine HS.out.uses.mono ?_
            rintro e w7 ⟨rfl, hs7⟩
            rw [e3, ← hU]
            clear HS
            have HS := hide_it hs7
            clear hs7
            go_wp2_with fail
            refine (HS.out.charges v u).mono ?_
            rintro e w8 ⟨rfl, hs8⟩
            rw [e4]
            rw [e5] at hs8
            clear HS
            have HS := hide_it hs8
            clear hs8 e3 e4 e5 hwa hwb m1 m2
            go_wp2_with fail
            refine HS.out.uses.mono ?_
            rintro e w8 ⟨rfl, hs8⟩
            rw [← hU]
            clear HS
            have HS := hide_it hs8
            clear hs8
            go_wp2_with fail
            refine HS.out.pends.mono ?_
            rintro e w9 ⟨rfl, hq⟩
            have hq9 := hq.symm
            subst hq9
            clear hq
            go_wp2_with fail
            refine HS.out.opens.mono ?_
            rintro e w9 ⟨rfl, hq⟩
            have hq9 := hq.symm
            subst hq9
            clear hq
            go_wp2
            go_ret
            exact ⟨by simp, HS.out.bel⟩
          · rw [e2] at hs6
            generalize chgE c u v = E at *
            have HS := hide_it hs6
            clear hs6 e2
            go_wp2_with fail
            refine HS.out.uses.mono ?_
            rintro e w8 ⟨rfl, hs8⟩
            rw [← hU]
            clear HS
            have HS := hide_it hs8
            clear hs8
            go_wp2_with fail
            refine HS.out.pends.mono ?_
            rintro e w9 ⟨rfl, hq⟩
            have hq9 := hq.symm
            subst hq9
            clear hq
            go_wp2_with fail
            refine HS.out.opens.mono ?_
            rintro e w9 ⟨rfl, hq⟩
            have hq9 := hq.symm
            subst hq9
            clear hq
            go_wp2
            go_ret
            exact ⟨by simp, HS.out.bel⟩
  · have hmk := made_any o
    rw [e1, e2] at hmk
    clear e1 e2
    go_enter Try.func5, Try.ntmps5
    go_wp2_with fail
    rw [← hW0]
    clear hW0
    refine (head_any _).mono ?_
    rintro e w1 ⟨rfl, b1⟩
    have hy1 := (b1.block (w.heap.size + 1) (by omega)).trans hy0
    clear hy0
    have y0 : w1.cell? ⟨w.heap.size + 1, 0, none⟩ = some (.int .i64 u) := cell_of_row _ _ _ _ _ _ hy1
    have y1 : w1.cell? ⟨w.heap.size + 1, 1, none⟩ = some (.int .i64 v) := cell_of_row _ _ _ _ _ _ hy1
    clear hy1
    obtain ⟨c0, c1, c2, c3, c4⟩ := (HX.out.below b1).cells
    have H1 := hide_it (HX.out.below b1)
    have B1 := hide_it (HB.out.trans (b1.mono z0))
    clear b1
    go_wp2_with fail
    refine (hmk _).mono ?_
    rintro e w2 ⟨b, rfl, hb, p2, b2⟩
    rw [show ptrA noAc b = .pointer none from rfl]
    have z1 := B1.out.size
    have B2 := hide_it (B1.out.trans (b2.mono z1))
    clear hmk c0 c1 c2 c3 c4 p2 b2 B1 hb z1 y0 y1 hs0
    go_wp2
    go_ret
    exact ⟨rfl, B2.out⟩
end Go.Proofs.Ytepkhohaahmebaa.quotaBack
