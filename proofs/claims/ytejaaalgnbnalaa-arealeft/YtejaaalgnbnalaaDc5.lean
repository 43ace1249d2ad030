/- The document's area, walked: Trim, Read. -/
import Derived.Test.YtejaaalgnbnalaaDc4
namespace Go.Proofs.Ytejaaalgnbnalaa
open Go.RowKit

set_option maxRecDepth 100000 in
set_option maxHeartbeats 800000 in
theorem rtrim_no {da sa : Value} {bs : List Nat} {k : Nat} (B : Nat) (w : World) (h : Dv w da sa bs k) (hr : B + bs.length ≤ 9223372036854775807) (E : Int) (hE : E < (B : Int) ∨ (B : Int) + (k : Int) < E) :
    Calls Try.prog 27 #[.agg #[.int .i64 (B : Int), da, sa], .int .i64 E] w fun e w' => e = .returned (.tuple #[.agg #[.int .i64 (B : Int), da, sa], .int .i64 70]) ∧ Below w.heap.size w w' := by
  obtain ⟨W0, hW0⟩ : ∃ W0, W0 = W2 w (B : Int) da sa := ⟨_, rfl⟩
  have hb0 := w2_below w (B : Int) da sa
  have hq0 := w2_arg w (B : Int) da sa
  have hq1 := w2_res w (B : Int) da sa
  rw [← hW0] at hb0 hq0 hq1
  have hend := rsafe_any B W0 (h.below hb0) hr
  obtain ⟨a1, c1, a2, c2, rfl, rfl, _⟩ := h.open
  obtain ⟨F, hF⟩ : ∃ F : Int, F = ((B + k : Nat) : Int) := ⟨_, rfl⟩
  have hE2 : E < (B : Int) ∨ F < E := by omega
  rw [← hF] at hend
  unfold W2 at hW0
  clear h hr hE hF
  generalize (B : Int) = Bi at *
  by_cases h1 : E < Bi
  · have hd : decide (E < Bi) = true := by simpa using h1
    clear hE2 hend hW0 hb0 hq0 hq1
    go_enter Try.func27, Try.ntmps27
    go_wp2_with fail
    refine bodyPost_ret (v := .tuple #[.agg #[.int .i64 Bi, .slice a1 bs.length c1, .slice a2 bs.length c2], .int .i64 70]) (by simp [results, Try.results27, go_sem]) rfl ?_
    exact ⟨rfl, ((Below.refl _ _).alloc (Nat.le_refl _) _).alloc (by simp) _⟩
  · have h2 : F < E := by omega
    have hd : decide (E < Bi) = false := by simp; omega
    clear hE2
    go_enter Try.func27, Try.ntmps27
    go_wp2_with fail
    rw [← hW0]
    clear hW0
    refine hend.mono ?_
    rintro e w1 ⟨rfl, hb1⟩
    obtain ⟨x0, x1, x2, _⟩ := (hq0.below hb1).cells
    obtain ⟨i0, i1, i2, j0, j1, j2⟩ := (hq1.below hb1).cells
    obtain ⟨u0, u1, u2, _⟩ := ((hq1.below hb1).all Bi (.slice a1 bs.length c1) (.slice a2 bs.length c2)).cells
    have hbe := (((hb0.trans (hb1.mono hb0.size)).setCell (p := ⟨w.heap.size + 1, 0, none⟩) (by show w.heap.size ≤ w.heap.size + 1; omega) (.int .i64 Bi)).setCell (p := ⟨w.heap.size + 1, 1, none⟩) (by show w.heap.size ≤ w.heap.size + 1; omega) (.slice a1 bs.length c1)).setCell (p := ⟨w.heap.size + 1, 2, none⟩) (by show w.heap.size ≤ w.heap.size + 1; omega) (.slice a2 bs.length c2)
    clear hend
    go_wp2_with fail
    refine bodyPost_ret (v := .tuple #[.agg #[.int .i64 Bi, .slice a1 bs.length c1, .slice a2 bs.length c2], .int .i64 70]) (by simp [results, Try.results27, go_sem, u0, u1, u2]) rfl ?_
    exact ⟨rfl, hbe⟩

set_option maxRecDepth 100000 in
set_option maxHeartbeats 1600000 in
theorem rtrim_ok {da sa : Value} {bs : List Nat} {k : Nat} (B : Nat) (w : World) (h : Dv w da sa bs k) (hr : B + bs.length ≤ 9223372036854775807) (hl : bs.length ≤ 211106232532800) (m : Nat) (hm : m ≤ k) (E : Int) (hE : E = (B : Int) + (m : Int)) :
    Calls Try.prog 27 #[.agg #[.int .i64 (B : Int), da, sa], .int .i64 E] w fun e w' => ∃ da' sa', e = .returned (.tuple #[.agg #[.int .i64 E, da', sa'], .int .i64 0]) ∧ Dn w da' sa' (bs.drop m) (k - m) w' := by
  have hk := h.le
  obtain ⟨W0, hW0⟩ : ∃ W0, W0 = W2 w (B : Int) da sa := ⟨_, rfl⟩
  have hb0 := w2_below w (B : Int) da sa
  have hq0 := w2_arg w (B : Int) da sa
  have hq1 := w2_res w (B : Int) da sa
  rw [← hW0] at hb0 hq0 hq1
  obtain ⟨x0, x1, x2, _⟩ := hq0.cells
  have hend := rsafe_any B W0 (h.below hb0) hr
  have hH := hide_it h
  obtain ⟨a1, c1, a2, c2, hda, hsa, _⟩ := h.open
  obtain ⟨F, hF⟩ : ∃ F : Int, F = ((B + k : Nat) : Int) := ⟨_, rfl⟩
  have h1 : ¬ E < (B : Int) := by omega
  have hd : decide (E < (B : Int)) = false := by simpa using h1
  have h2 : ¬ F < E := by omega
  have hw : IntKind.i64.wrap (E - (B : Int)) = (m : Int) := by rw [IntKind.wrap_i64]; omega
  rw [← hF] at hend
  unfold W2 at hW0
  obtain ⟨Bi, hBi⟩ : ∃ Bi : Int, Bi = (B : Int) := ⟨_, rfl⟩
  rw [← hBi] at hW0 hq0 x0 hend h1 hd hw
  rw [← hBi]
  clear h hr hE hF hBi
  subst hda
  subst hsa
  go_enter Try.func27, Try.ntmps27
  go_wp2_with fail
  rw [← hW0]
  clear hW0
  refine hend.mono ?_
  rintro e w1 ⟨rfl, hb1⟩
  have hcopy := (hH.out.below (hb0.trans (hb1.mono hb0.size))).copy Bi hl
  obtain ⟨x0, x1, x2, _⟩ := (hq0.below hb1).cells
  clear hend
  go_wp2_with fail
  refine hcopy.mono ?_
  rintro e w2 ⟨da1, sa1, rfl, hD⟩
  have hC := hD.box Bi
  obtain ⟨d1, d2, e1, e2, rfl, rfl, _, _, hc1, hc2, _⟩ := hD.dv.open
  obtain ⟨q, hq⟩ : ∃ q, q = w2.heap.size := ⟨_, rfl⟩
  obtain ⟨Wa, hWa⟩ : ∃ Wa, Wa = w2.alloc (.cells #[.int .i64 Bi, .slice d1 bs.length d2, .slice e1 bs.length e2] 52) := ⟨_, rfl⟩
  rw [← hWa, ← hq] at hC
  have hqa := (hq0.below hb1).keep (hC.bel.block w.heap.size (hq0.below hb1).lt)
  have hqr : BoxD Wa (w.heap.size + 1) 0 (.slice none 0 0) (.slice none 0 0) := (hq1.below hb1).keep (hC.bel.block (w.heap.size + 1) (hq1.below hb1).lt)
  obtain ⟨x0, x1, x2, _⟩ := hqa.cells
  obtain ⟨y0, y1, y2, z0, z1, z2⟩ := hC.box.cells
  obtain ⟨i0, i1, i2, j0, j1, j2⟩ := hqr.cells
  have hlf := sfs_len hH.out.le
  have hm2 : m ≤ bs.length := by omega
  have hbt := OwB.drop (m := m) hC.by_ hm2
  have hft := OwO.drop (m := m) (by rw [hlf]; exact hC.sf) (by rw [hlf]; exact hm2)
  obtain ⟨A1, hA1⟩ : ∃ A, (if d2 = m then d1 else d1.map (·.add m)) = A := ⟨_, rfl⟩
  obtain ⟨A2, hA2⟩ : ∃ A, (if e2 = m then e1 else e1.map (·.add m)) = A := ⟨_, rfl⟩
  rw [hA1] at hbt
  rw [hA2, sfs_drop hm, hlf] at hft
  obtain ⟨u0, u1, u2, _⟩ := (hqr.all E (.slice A1 (bs.length - m) (d2 - m)) (.slice A2 (bs.length - m) (e2 - m))).cells
  have hkp : ∀ j, w1.heap.size ≤ j → (((Wa.setCell ⟨w.heap.size + 1, 0, none⟩ (.int .i64 E)).setCell ⟨w.heap.size + 1, 1, none⟩ (.slice A1 (bs.length - m) (d2 - m))).setCell ⟨w.heap.size + 1, 2, none⟩ (.slice A2 (bs.length - m) (e2 - m))).drew.heap[j]? = Wa.heap[j]? := fun j hj => by
    have hne : j ≠ w.heap.size + 1 := by have := (hq1.below hb1).lt; omega
    exact (Below.heap_setCell _ _ _ _ hne).trans ((Below.heap_setCell _ _ _ _ hne).trans (Below.heap_setCell _ _ _ _ hne))
  have hww : w.heap.size ≤ w1.heap.size := Nat.le_trans hb0.size hb1.size
  have hlt : (bs.drop m).length = bs.length - m := by simp
  have hbe : Below w.heap.size w (((Wa.setCell ⟨w.heap.size + 1, 0, none⟩ (.int .i64 E)).setCell ⟨w.heap.size + 1, 1, none⟩ (.slice A1 (bs.length - m) (d2 - m))).setCell ⟨w.heap.size + 1, 2, none⟩ (.slice A2 (bs.length - m) (e2 - m))).drew :=
    ((((hb0.trans (hb1.mono hb0.size)).trans (hC.bel.mono hww)).setCell (p := ⟨w.heap.size + 1, 0, none⟩) (by show w.heap.size ≤ w.heap.size + 1; omega) _).setCell (p := ⟨w.heap.size + 1, 1, none⟩) (by show w.heap.size ≤ w.heap.size + 1; omega) _).setCell (p := ⟨w.heap.size + 1, 2, none⟩) (by show w.heap.size ≤ w.heap.size + 1; omega) _ |>.drew
  have hdn : Dn w (.slice A1 (bs.length - m) (d2 - m)) (.slice A2 (bs.length - m) (e2 - m)) (bs.drop m) (k - m) (((Wa.setCell ⟨w.heap.size + 1, 0, none⟩ (.int .i64 E)).setCell ⟨w.heap.size + 1, 1, none⟩ (.slice A1 (bs.length - m) (d2 - m))).setCell ⟨w.heap.size + 1, 2, none⟩ (.slice A2 (bs.length - m) (e2 - m))).drew :=
    ⟨(hbt.keep fun j hj => hkp j (hbt.inside j hj).1).mono hww, by rw [hlt]; exact (hft.keep fun j hj => hkp j (hft.inside j hj).1).mono hww, by rw [hlt]; omega, hbe⟩
  clear hcopy hD hkp hbe hbt hft hlt hww hqr hqa hC hq0 hq1 hb0 hb1
  go_wp2_with fail
  rw [← hWa, ← hq]
  clear hWa hq
  go_region
  go_wp2_with fail
  refine bodyPost_ret (v := .tuple #[.agg #[.int .i64 E, .slice A1 (bs.length - m) (d2 - m), .slice A2 (bs.length - m) (e2 - m)], .int .i64 0]) (by simp [results, Try.results27, go_sem, u0, u1, u2]) rfl ?_
  exact ⟨_, _, rfl, hdn⟩

set_option maxRecDepth 100000 in
set_option maxHeartbeats 800000 in
theorem rread_no {da sa : Value} {bs : List Nat} {k : Nat} (B : Nat) (w : World) (h : Dv w da sa bs k) (hr : B + bs.length ≤ 9223372036854775807) (E N : Int) (hEb : E ≤ 9223372036854775807) (hE : N < 0 ∨ E < (B : Int) ∨ (B : Int) + (bs.length : Int) < E + N) :
    Calls Try.prog 28 #[.agg #[.int .i64 (B : Int), da, sa], .int .i64 E, .int .i64 N] w fun e w' => e = .returned (.tuple #[.slice none 0 0, .int .i64 70]) ∧ Below w.heap.size w w' := by
  obtain ⟨W0, hW0⟩ : ∃ W0, W0 = w.alloc (.cells #[.int .i64 (B : Int), da, sa] 52) := ⟨_, rfl⟩
  have hb0 : Below w.heap.size w W0 := by rw [hW0]; exact (Below.refl _ _).alloc (Nat.le_refl _) _
  have hq0 : BoxD W0 w.heap.size (B : Int) da sa := by rw [hW0]; exact BoxD.new w _ _ _
  have hend := rend_any B W0 (h.below hb0) hr
  have hend2 := fun w1 hb => rend_any B w1 ((h.below hb0).below (w' := w1) hb) hr
  obtain ⟨a1, c1, a2, c2, rfl, rfl, _⟩ := h.open
  by_cases h0 : N < 0
  · have hd : decide (N < 0) = true := by simpa using h0
    clear hE h hr hend hend2 hEb hq0
    go_enter Try.func28, Try.ntmps28
    go_wp2_with fail
    rw [← hW0]
    refine bodyPost_ret (v := .tuple #[.slice none 0 0, .int .i64 70]) (by simp [results, Try.results28, go_sem]) rfl ?_
    exact ⟨rfl, hb0⟩
  · have hd : decide (N < 0) = false := by simp; omega
    by_cases h1 : E < (B : Int)
    · have hd1 : decide (E < (B : Int)) = true := by simpa using h1
      clear hE h hr hend hend2 hEb hq0
      generalize (B : Int) = Bi at *
      go_enter Try.func28, Try.ntmps28
      go_wp2_with fail
      rw [← hW0]
      refine bodyPost_ret (v := .tuple #[.slice none 0 0, .int .i64 70]) (by simp [results, Try.results28, go_sem]) rfl ?_
      exact ⟨rfl, hb0⟩
    · have hd1 : decide (E < (B : Int)) = false := by simp; omega
      obtain ⟨F, hF⟩ : ∃ F : Int, F = ((B + bs.length : Nat) : Int) := ⟨_, rfl⟩
      obtain ⟨G, hG⟩ : ∃ G : Int, G = F - E := ⟨_, rfl⟩
      have hw : IntKind.i64.wrap (F - E) = G := by rw [IntKind.wrap_i64]; omega
      rw [← hF] at hend hend2
      by_cases h2 : F < E
      · have hd2 : decide (F < E) = true := by simpa using h2
        clear hE h hr hend2 hEb hF hG hw
        generalize (B : Int) = Bi at *
        go_enter Try.func28, Try.ntmps28
        go_wp2_with fail
        rw [← hW0]
        clear hW0
        refine hend.mono ?_
        rintro e w1 ⟨rfl, hb1⟩
        have hbe := hb0.trans (hb1.mono hb0.size)
        go_wp2_with fail
        refine bodyPost_ret (v := .tuple #[.slice none 0 0, .int .i64 70]) (by simp [results, Try.results28, go_sem]) rfl ?_
        exact ⟨rfl, hbe⟩
      · have hd2 : decide (F < E) = false := by simpa using h2
        have h3 : G < N := by omega
        clear hE h hr hEb hF hG
        generalize (B : Int) = Bi at *
        go_enter Try.func28, Try.ntmps28
        go_wp2_with fail
        rw [← hW0]
        clear hW0
        refine hend.mono ?_
        rintro e w1 ⟨rfl, hb1⟩
        have hbe := hb0.trans (hb1.mono hb0.size)
        obtain ⟨x0, x1, x2, _⟩ := (hq0.below hb1).cells
        have hen2 := hend2 w1 hb1
        clear hend hend2
        go_wp2_with fail
        refine hen2.mono ?_
        rintro e w2 ⟨rfl, hb2⟩
        have hbe2 := hbe.trans (hb2.mono hbe.size)
        clear hen2 x0 x1 x2
        go_wp2_with fail
        refine bodyPost_ret (v := .tuple #[.slice none 0 0, .int .i64 70]) (by simp [results, Try.results28, go_sem]) rfl ?_
        exact ⟨rfl, hbe2⟩

end Go.Proofs.Ytejaaalgnbnalaa
