/- The document's area, walked: Sync, Cut. -/
import Derived.Test.YtejaaalgnbnalaaDc3
namespace Go.Proofs.Ytejaaalgnbnalaa
open Go.RowKit

/-- The argument's struct and the result's, made at a call's beginning. -/
def W2 (w : World) (B : Int) (da sa : Value) : World := (w.alloc (.cells #[.int .i64 B, da, sa] 52)).alloc (.cells #[.int .i64 0, .slice none 0 0, .slice none 0 0] 52)
theorem w2_below (w : World) (B : Int) (da sa : Value) : Below w.heap.size w (W2 w B da sa) := ((Below.refl _ _).alloc (Nat.le_refl _) _).alloc (by simp) _
theorem w2_arg (w : World) (B : Int) (da sa : Value) : BoxD (W2 w B da sa) w.heap.size B da sa := (BoxD.new w _ _ _).keep (Below.heap_alloc _ _ _ (by simp))
theorem w2_res (w : World) (B : Int) (da sa : Value) : BoxD (W2 w B da sa) (w.heap.size + 1) 0 (.slice none 0 0) (.slice none 0 0) := by
  have := BoxD.new (w.alloc (.cells #[.int .i64 B, da, sa] 52)) 0 (.slice none 0 0) (.slice none 0 0)
  simpa [W2] using this

/-- Marks that are set up to m. -/
def mkd (fs : List Bool) (m : Nat) : List Bool := List.replicate m true ++ fs.drop m
theorem mkd_len {fs : List Bool} {m : Nat} (h : m ≤ fs.length) : (mkd fs m).length = fs.length := by simp [mkd]; omega
theorem mkd_set {fs : List Bool} {m : Nat} (h : m < fs.length) : (mkd fs m).set m true = mkd fs (m + 1) := by
  unfold mkd
  rw [List.set_append_right _ _ (by simp), List.length_replicate, Nat.sub_self, List.drop_eq_getElem_cons h, List.set_cons_zero, List.replicate_succ', List.append_assoc]
  rfl
theorem mkd_all (fs : List Bool) : mkd fs fs.length = sfs fs.length fs.length := by rw [sfs_all]; simp [mkd]

set_option maxRecDepth 100000 in
set_option maxHeartbeats 800000 in
theorem rsync_any {da sa : Value} {bs : List Nat} {k : Nat} (B : Int) (w : World) (h : Dv w da sa bs k) (hl : bs.length ≤ 211106232532800) :
    Calls Try.prog 24 #[.agg #[.int .i64 B, da, sa]] w fun e w' => ∃ da' sa', e = .returned (.agg #[.int .i64 B, da', sa']) ∧ Dn w da' sa' bs bs.length w' := by
  obtain ⟨W0, hW0⟩ : ∃ W0, W0 = W2 w B da sa := ⟨_, rfl⟩
  have hb0 := w2_below w B da sa
  have hq0 := w2_arg w B da sa
  have hq1 := w2_res w B da sa
  rw [← hW0] at hb0 hq0 hq1
  obtain ⟨x0, x1, x2, _⟩ := hq0.cells
  have hcopy := (h.below hb0).copy B hl
  obtain ⟨a1, c1, a2, c2, rfl, rfl, _⟩ := h.open
  unfold W2 at hW0
  clear h
  go_enter Try.func24, Try.ntmps24
  go_wp2_with fail
  rw [← hW0]
  clear hW0
  refine hcopy.mono ?_
  rintro e w1 ⟨da1, sa1, rfl, hD⟩
  have hC := hD.box B
  obtain ⟨d1, d2, e1, e2, rfl, rfl, _⟩ := hD.dv.open
  obtain ⟨q, hq⟩ : ∃ q, q = w1.heap.size := ⟨_, rfl⟩
  obtain ⟨Wa, hWa⟩ : ∃ Wa, Wa = w1.alloc (.cells #[.int .i64 B, .slice d1 bs.length d2, .slice e1 bs.length e2] 52) := ⟨_, rfl⟩
  rw [← hWa, ← hq] at hC
  have hfl := sfs_len hD.le
  obtain ⟨fs, hfs⟩ : ∃ fs, fs = sfs bs.length k := ⟨_, rfl⟩
  rw [← hfs] at hC hfl
  have hmk : mkd fs bs.length = sfs bs.length bs.length := by rw [← hfl]; exact mkd_all fs
  replace hC := hide_it hC
  replace hmk := hide_it hmk
  have hms : bs.length < 1000000000000000 := by omega
  clear hcopy hD x0 x1 x2 hfs hl
  go_wp2_with fail
  rw [← hWa, ← hq]
  clear hWa hq
  go_loopw [4] (fun i wr => ∃ m : Nat, m ≤ bs.length ∧ i = .int .i64 (m : Int) ∧ Hid (Cp W0 W0.heap.size wr q B (.slice d1 bs.length d2) (.slice e1 bs.length e2) bs (mkd fs m))) (fun i _ => bs.length - (intOf i).toNat)
  case atStart => exact ⟨0, by omega, rfl, by simpa [mkd] using hC⟩
  case round =>
    obtain ⟨m, hm, rfl, hR⟩ := hrel
    clear hC
    obtain ⟨y0, y1, y2, z0, z1, z2⟩ := hR.out.box.cells
    by_cases hlt : m < bs.length
    · obtain ⟨s1, s2, es, hrow, _⟩ := hR.out.sf.row
      rw [mkd_len (by omega), hfl] at es
      cases es
      obtain ⟨g, o2, rfl, hg, hcell⟩ := hrow.here (i := m) (by rw [mkd_len (by omega)]; omega)
      have hcm := hcell m (by rw [mkd_len (by omega)]; omega)
      have hfz : wr.frozen? ⟨g, o2 + m, none⟩ = false := thawS hR.out.sf _
      have hR2 := Cp.mark hR.out (by rw [mkd_len (by omega)]; exact hfl) hlt true
      rw [mkd_set (by omega)] at hR2
      replace hR2 := hide_it hR2
      clear hR hrow hcell
      go_wp2_with fail
      go_roundw
      case rel => exact ⟨m + 1, by omega, by go_num, hR2⟩
      case measure => simp [intOf]; omega
    · have hmn : m = bs.length := by omega
      subst hmn
      obtain ⟨hbr, hall, hout⟩ := Cp.ret hR.out hb0 hq1 (by omega)
      obtain ⟨i0, i1, i2, j0, j1, j2⟩ := hbr.cells
      obtain ⟨u0, u1, u2, _⟩ := hall.cells
      obtain ⟨⟨da', sa', he, hB', hS'⟩, hbel⟩ := hout
      cases he
      rw [hmk.out] at hS'
      clear hR hall hbr
      go_wp2_with fail
      refine bodyPost_ret (v := .agg #[.int .i64 B, .slice d1 bs.length d2, .slice e1 bs.length e2]) (by simp [results, Try.results24, go_sem, u0, u1, u2]) rfl ?_
      exact ⟨_, _, rfl, hB', hS', Nat.le_refl _, hbel⟩

set_option maxRecDepth 100000 in
set_option maxHeartbeats 800000 in
theorem rcut_no {da sa : Value} {bs : List Nat} {k : Nat} (B : Nat) (w : World) (h : Dv w da sa bs k) (hr : B + bs.length ≤ 9223372036854775807) (E : Int) (hE : E < (B : Int) ∨ (B : Int) + (bs.length : Int) < E) :
    Calls Try.prog 26 #[.agg #[.int .i64 (B : Int), da, sa], .int .i64 E] w fun e w' => e = .returned (.tuple #[.agg #[.int .i64 (B : Int), da, sa], .int .i64 70]) ∧ Below w.heap.size w w' := by
  obtain ⟨W0, hW0⟩ : ∃ W0, W0 = W2 w (B : Int) da sa := ⟨_, rfl⟩
  have hb0 := w2_below w (B : Int) da sa
  have hq0 := w2_arg w (B : Int) da sa
  have hq1 := w2_res w (B : Int) da sa
  rw [← hW0] at hb0 hq0 hq1
  obtain ⟨x0, x1, x2, _⟩ := hq0.cells
  have hend := rend_any B W0 (h.below hb0) hr
  have hal := (hq1.all (B : Int) da sa).cells
  obtain ⟨a1, c1, a2, c2, rfl, rfl, _⟩ := h.open
  obtain ⟨i0, i1, i2, j0, j1, j2⟩ := hq1.cells
  obtain ⟨F, hF⟩ : ∃ F : Int, F = ((B + bs.length : Nat) : Int) := ⟨_, rfl⟩
  have hE2 : E < (B : Int) ∨ F < E := by omega
  rw [← hF] at hend
  have hbe := ((hb0.setCell (p := ⟨w.heap.size + 1, 0, none⟩) (by show w.heap.size ≤ w.heap.size + 1; omega) (.int .i64 (B : Int))).setCell (p := ⟨w.heap.size + 1, 1, none⟩) (by show w.heap.size ≤ w.heap.size + 1; omega) (.slice a1 bs.length c1)).setCell (p := ⟨w.heap.size + 1, 2, none⟩) (by show w.heap.size ≤ w.heap.size + 1; omega) (.slice a2 bs.length c2)
  unfold W2 at hW0
  clear h hr hE hF
  generalize (B : Int) = Bi at *
  by_cases h1 : E < Bi
  · have hd : decide (E < Bi) = true := by simpa using h1
    clear hE2 hend hal hbe hW0 hb0 hq0 hq1 x0 x1 x2 i0 i1 i2 j0 j1 j2
    go_enter Try.func26, Try.ntmps26
    go_wp2_with fail
    refine bodyPost_ret (v := .tuple #[.agg #[.int .i64 Bi, .slice a1 bs.length c1, .slice a2 bs.length c2], .int .i64 70]) (by simp [results, Try.results26, go_sem]) rfl ?_
    exact ⟨rfl, ((Below.refl _ _).alloc (Nat.le_refl _) _).alloc (by simp) _⟩
  · have h2 : F < E := by omega
    have hd : decide (E < Bi) = false := by simp; omega
    clear hE2
    go_enter Try.func26, Try.ntmps26
    go_wp2_with fail
    rw [← hW0]
    clear hW0
    refine hend.mono ?_
    rintro e w1 ⟨rfl, hb1⟩
    obtain ⟨x0, x1, x2, _⟩ := (hq0.below hb1).cells
    obtain ⟨i0, i1, i2, j0, j1, j2⟩ := (hq1.below hb1).cells
    obtain ⟨u0, u1, u2, _⟩ := ((hq1.below hb1).all Bi (.slice a1 bs.length c1) (.slice a2 bs.length c2)).cells
    have hbe := (((hb0.trans (hb1.mono hb0.size)).setCell (p := ⟨w.heap.size + 1, 0, none⟩) (by show w.heap.size ≤ w.heap.size + 1; omega) (.int .i64 Bi)).setCell (p := ⟨w.heap.size + 1, 1, none⟩) (by show w.heap.size ≤ w.heap.size + 1; omega) (.slice a1 bs.length c1)).setCell (p := ⟨w.heap.size + 1, 2, none⟩) (by show w.heap.size ≤ w.heap.size + 1; omega) (.slice a2 bs.length c2)
    clear hend hal
    go_wp2_with fail
    refine bodyPost_ret (v := .tuple #[.agg #[.int .i64 Bi, .slice a1 bs.length c1, .slice a2 bs.length c2], .int .i64 70]) (by simp [results, Try.results26, go_sem, u0, u1, u2]) rfl ?_
    exact ⟨rfl, hbe⟩

set_option maxRecDepth 100000 in
set_option maxHeartbeats 1600000 in
theorem rcut_ok {da sa : Value} {bs : List Nat} {k : Nat} (B : Nat) (w : World) (h : Dv w da sa bs k) (hr : B + bs.length ≤ 9223372036854775807) (hl : bs.length ≤ 211106232532800) (m : Nat) (hm : m ≤ bs.length) (E : Int) (hE : E = (B : Int) + (m : Int)) :
    Calls Try.prog 26 #[.agg #[.int .i64 (B : Int), da, sa], .int .i64 E] w fun e w' => ∃ da' sa', e = .returned (.tuple #[.agg #[.int .i64 (B : Int), da', sa'], .int .i64 0]) ∧ Dn w da' sa' (bs.take m) (min k m) w' := by
  obtain ⟨W0, hW0⟩ : ∃ W0, W0 = W2 w (B : Int) da sa := ⟨_, rfl⟩
  have hb0 := w2_below w (B : Int) da sa
  have hq0 := w2_arg w (B : Int) da sa
  have hq1 := w2_res w (B : Int) da sa
  rw [← hW0] at hb0 hq0 hq1
  obtain ⟨x0, x1, x2, _⟩ := hq0.cells
  have hend := rend_any B W0 (h.below hb0) hr
  have hH := hide_it h
  obtain ⟨a1, c1, a2, c2, hda, hsa, _⟩ := h.open
  obtain ⟨F, hF⟩ : ∃ F : Int, F = ((B + bs.length : Nat) : Int) := ⟨_, rfl⟩
  have h1 : ¬ E < (B : Int) := by omega
  have hd : decide (E < (B : Int)) = false := by simpa using h1
  have h2 : ¬ F < E := by omega
  have hw : IntKind.i64.wrap (E - (B : Int)) = (m : Int) := by rw [IntKind.wrap_i64]; omega
  rw [← hF] at hend
  unfold W2 at hW0
  obtain ⟨Bi, hBi⟩ : ∃ Bi : Int, Bi = (B : Int) := ⟨_, rfl⟩
  rw [← hBi] at hW0 hq0 x0 hend h1 hd hw
  rw [← hBi]
  clear h hr hE hF hBi
  subst hda
  subst hsa
  go_enter Try.func26, Try.ntmps26
  go_wp2_with fail
  rw [← hW0]
  clear hW0
  refine hend.mono ?_
  rintro e w1 ⟨rfl, hb1⟩
  have hcopy := (hH.out.below (hb0.trans (hb1.mono hb0.size))).copy Bi hl
  obtain ⟨x0, x1, x2, _⟩ := (hq0.below hb1).cells
  clear hend
  go_wp2_with fail
  refine hcopy.mono ?_
  rintro e w2 ⟨da1, sa1, rfl, hD⟩
  have hC := hD.box Bi
  obtain ⟨d1, d2, e1, e2, rfl, rfl, _, _, hc1, hc2, _⟩ := hD.dv.open
  obtain ⟨q, hq⟩ : ∃ q, q = w2.heap.size := ⟨_, rfl⟩
  obtain ⟨Wa, hWa⟩ : ∃ Wa, Wa = w2.alloc (.cells #[.int .i64 Bi, .slice d1 bs.length d2, .slice e1 bs.length e2] 52) := ⟨_, rfl⟩
  rw [← hWa, ← hq] at hC
  have hbb : Below W0.heap.size W0 Wa := (hb1.trans (hC.bel.mono hb1.size))
  have hqa := (hq0.below hb1).keep (hC.bel.block w.heap.size (hq0.below hb1).lt)
  obtain ⟨x0, x1, x2, _⟩ := hqa.cells
  obtain ⟨y0, y1, y2, z0, z1, z2⟩ := hC.box.cells
  have hqe : w.heap.size ≠ q := by have := hC.low; have := (hq0.below hb1).lt; omega
  have hC2 := hide_it hC
  clear hcopy hD
  go_wp2_with fail
  rw [← hWa, ← hq]
  clear hWa hq
  have hlf := sfs_len hH.out.le
  have hbt := OwB.take (m := m) hC.by_ hm
  have hft := OwO.take (m := m) (by rw [hlf]; exact hC.sf) (by rw [hlf]; exact hm)
  have hC3 := ((hC.lay hbt hft).drew).lower hb1
  rw [sfs_take hm] at hC3
  obtain ⟨hbr, hall, hout⟩ := Cp.ret hC3 hb0 hq1 (by omega)
  obtain ⟨v0, v1, v2, _⟩ := hC3.box.cells
  obtain ⟨i0, i1, i2, j0, j1, j2⟩ := hbr.cells
  obtain ⟨u0, u1, u2, _⟩ := hall.cells
  obtain ⟨⟨da', sa', he, hB', hS'⟩, hbel⟩ := hout
  cases he
  have hlt : (bs.take m).length = m := by simp; omega
  have hdn : Dn w (.slice d1 m d2) (.slice e1 m e2) (bs.take m) (min k m) _ := ⟨hB', by rw [hlt]; exact hS', by rw [hlt]; omega, hbel⟩
  clear hbr hall hC3 hB' hS' hbel hft hbt hC2 hC hqa hq0 hq1 hb0
  go_region
  obtain ⟨V, hV⟩ : ∃ V, V = ((Wa.setCell ⟨q, 1, none⟩ (.slice d1 m d2)).setCell ⟨q, 2, none⟩ (.slice e1 m e2)).drew := ⟨_, rfl⟩
  rw [← hV] at v0 v1 v2 i0 i1 i2 j0 j1 j2 u0 u1 u2 hdn
  rw [← hV]
  clear hV
  go_wp2_with fail
  refine bodyPost_ret (v := .tuple #[.agg #[.int .i64 Bi, .slice d1 m d2, .slice e1 m e2], .int .i64 0]) (by simp [results, Try.results26, go_sem, u0, u1, u2]) rfl ?_
  exact ⟨_, _, rfl, hdn⟩

end Go.Proofs.Ytejaaalgnbnalaa
