/- The document's area, walked: Crash. -/
import Derived.Test.YtejaaalgnbnalaaDc6
namespace Go.Proofs.Ytejaaalgnbnalaa
open Go.RowKit

set_option maxRecDepth 100000 in
set_option maxHeartbeats 3200000 in
theorem rcrash_zero {da sa : Value} {bs : List Nat} {k : Nat} (B : Nat) (w : World) (h : Dv w da sa bs k) (hr : B + bs.length ≤ 9223372036854775807) (hl : bs.length ≤ 211106232532800) (E : Int) (t : Nat) (hc : 0 = min E.toNat (bs.length - k)) :
    Calls Try.prog 31 #[.agg #[.int .i64 (B : Int), da, sa], .int .i64 E, .int .u8 (t : Int)] w fun e w' => ∃ da' sa', e = .returned (.agg #[.int .i64 (B : Int), da', sa']) ∧ Dn w da' sa' (bs.take k) k w' := by
  have hk := h.le
  obtain ⟨W0, hW0⟩ : ∃ W0, W0 = W2 w (B : Int) da sa := ⟨_, rfl⟩
  have hb0 := w2_below w (B : Int) da sa
  have hq0 := w2_arg w (B : Int) da sa
  have hq1 := w2_res w (B : Int) da sa
  rw [← hW0] at hb0 hq0 hq1
  obtain ⟨x0, x1, x2, _⟩ := hq0.cells
  have hcopy := (h.below hb0).copy (B : Int) hl
  have hsafe := fun w1 hb => rsafe_any B w1 ((h.below hb0).below (w' := w1) hb) hr
  have hlf := sfs_len h.le
  obtain ⟨a1, c1, a2, c2, hda, hsa, _⟩ := h.open
  obtain ⟨L, hL⟩ : ∃ L, L = bs.length - k := ⟨_, rfl⟩
  have hw : IntKind.i64.wrap ((bs.length : Int) - (k : Int)) = (L : Int) := by rw [IntKind.wrap_i64]; omega
  have hwk : IntKind.i64.wrap (k : Int) = (k : Int) := by rw [IntKind.wrap_i64]; omega
  obtain ⟨F, hF⟩ : ∃ F : Int, F = ((B + k : Nat) : Int) := ⟨_, rfl⟩
  have hw2 : IntKind.i64.wrap (F - (B : Int)) = (k : Int) := by rw [IntKind.wrap_i64]; omega
  rw [← hF] at hsafe
  unfold W2 at hW0
  have hcc : (E < 0 ∧ 0 < L) ∨ (E < 0 ∧ L = 0) ∨ (E = 0 ∧ 0 < L) ∨ (0 ≤ E ∧ L = 0) := by omega
  obtain ⟨Bi, hBi⟩ : ∃ Bi : Int, Bi = (B : Int) := ⟨_, rfl⟩
  rw [← hBi] at hW0 hq0 x0 hcopy hsafe hw2
  rw [← hBi]
  clear h hr hF hBi hc hL
  subst hda
  subst hsa
  go_enter Try.func31, Try.ntmps31
  go_wp2_with fail
  rw [← hW0]
  clear hW0
  refine hcopy.mono ?_
  rintro e w1 ⟨da1, sa1, rfl, hD⟩
  have hC := hD.box Bi
  obtain ⟨d1, d2, e1, e2, rfl, rfl, _, _, hc1, hc2, _⟩ := hD.dv.open
  obtain ⟨q, hq⟩ : ∃ q, q = w1.heap.size := ⟨_, rfl⟩
  obtain ⟨Wa, hWa⟩ : ∃ Wa, Wa = w1.alloc (.cells #[.int .i64 Bi, .slice d1 bs.length d2, .slice e1 bs.length e2] 52) := ⟨_, rfl⟩
  rw [← hWa, ← hq] at hC
  have hqa := hq0.keep (hC.bel.block w.heap.size hq0.lt)
  have hqr : BoxD Wa (w.heap.size + 1) 0 (.slice none 0 0) (.slice none 0 0) := hq1.keep (hC.bel.block (w.heap.size + 1) hq1.lt)
  have hs1 := hq1.lt
  obtain ⟨x0, x1, x2, _⟩ := hqa.cells
  obtain ⟨y0, y1, y2, z0, z1, z2⟩ := hC.box.cells
  have hsf := hsafe Wa.drew hC.bel.drew
  have hpa := hqa.lt
  have hpq := hC.box.lt
  clear hcopy hD hsafe
  go_wp2_with fail
  rw [← hWa, ← hq]
  clear hWa hq
  refine wp_region_held_drew (S := (fun w' => Below Wa.heap.size Wa w')) (by kernel_rfl) ?_ (fun hHeld => ?_)
  · exact (Below.refl _ _).drew
  refine take_on (i := 0) (v := ?_) rfl rfl (by kernel_rfl) (by kernel_rfl) (by kernel_rfl) (fun _ _ _ h => h) rfl ?_ hHeld ?_
  rotate_left
  · (intro wq hSq; have q0 := (hSq.cell (p := ⟨w.heap.size, 0, none⟩) hpa).trans x0; have q1 := (hSq.cell (p := ⟨w.heap.size, 1, none⟩) hpa).trans x1; have q2 := (hSq.cell (p := ⟨w.heap.size, 2, none⟩) hpa).trans x2; go_simp <;> first | with_reducible rfl | rfl)
  simp only [Act.put, List.setIfInBounds_toArray, List.set_cons_zero, List.set_cons_succ]
  refine take_on (i := 2) (v := ?_) rfl rfl (by kernel_rfl) (by kernel_rfl) (by kernel_rfl) (fun _ _ _ h => h) rfl ?_ hHeld ?_
  rotate_left
  · (intro wq hSq; have q0 := (hSq.cell (p := ⟨w.heap.size, 0, none⟩) hpa).trans x0; have q1 := (hSq.cell (p := ⟨w.heap.size, 1, none⟩) hpa).trans x1; have q2 := (hSq.cell (p := ⟨w.heap.size, 2, none⟩) hpa).trans x2; go_simp <;> first | with_reducible rfl | rfl)
  simp only [Act.put, List.setIfInBounds_toArray, List.set_cons_zero, List.set_cons_succ]
  refine take_on (i := 3) (v := ?_) rfl rfl (by kernel_rfl) (by kernel_rfl) (by kernel_rfl) (fun _ _ _ h => h) rfl ?_ hHeld ?_
  rotate_left
  · (intro wq hSq; have q0 := (hSq.cell (p := ⟨w.heap.size, 0, none⟩) hpa).trans x0; have q1 := (hSq.cell (p := ⟨w.heap.size, 1, none⟩) hpa).trans x1; have q2 := (hSq.cell (p := ⟨w.heap.size, 2, none⟩) hpa).trans x2; go_simp <;> first | with_reducible rfl | rfl)
  simp only [Act.put, List.setIfInBounds_toArray, List.set_cons_zero, List.set_cons_succ]
  refine take_one (i := 1) rfl (by kernel_rfl) (fun K hK => ?_)
  go_simp
  refine hsf.mono ?_; rintro e y8 ⟨rfl, hb8⟩; have hy8 : Below Wa.heap.size Wa y8 := (Below.refl _ _).drew.trans hb8
  try go_wp2_with fail
  refine hK.out _ _ ?_ (fun hHeld => ?_)
  · exact hy8
  clear hK K
  try simp only [Act.put, List.setIfInBounds_toArray, List.set_cons_zero, List.set_cons_succ]
  refine take_on (i := 4) (v := ?_) rfl rfl (by kernel_rfl) (by kernel_rfl) (by kernel_rfl) (fun _ _ _ h => h) rfl ?_ hHeld ?_
  rotate_left
  · (intro wq hSq; have q0 := (hSq.cell (p := ⟨w.heap.size, 0, none⟩) hpa).trans x0; have q1 := (hSq.cell (p := ⟨w.heap.size, 1, none⟩) hpa).trans x1; have q2 := (hSq.cell (p := ⟨w.heap.size, 2, none⟩) hpa).trans x2; go_simp <;> first | with_reducible rfl | rfl)
  simp only [Act.put, List.setIfInBounds_toArray, List.set_cons_zero, List.set_cons_succ]
  refine take_on (i := 5) (v := ?_) rfl rfl (by kernel_rfl) (by kernel_rfl) (by kernel_rfl) (fun _ _ _ h => h) rfl ?_ hHeld ?_
  rotate_left
  · (intro wq hSq; have q0 := (hSq.cell (p := ⟨w.heap.size, 0, none⟩) hpa).trans x0; have q1 := (hSq.cell (p := ⟨w.heap.size, 1, none⟩) hpa).trans x1; have q2 := (hSq.cell (p := ⟨w.heap.size, 2, none⟩) hpa).trans x2; go_simp <;> first | with_reducible rfl | rfl)
  simp only [Act.put, List.setIfInBounds_toArray, List.set_cons_zero, List.set_cons_succ]
  refine wpAnyH_done (by kernel_rfl) ?_ _
  have hC8 : Cp W0 W0.heap.size y8 q Bi (.slice d1 bs.length d2) (.slice e1 bs.length e2) bs (sfs bs.length k) := ⟨hC.bel.trans (hy8.mono hC.bel.size), hC.box.below hy8, hC.by_.below hy8, hC.sf.below hy8, hC.low, Nat.le_trans hC.bas hy8.size⟩
  have hbt := OwB.take (m := k) hC8.by_ hk
  have hft := OwO.take (m := k) (by rw [hlf]; exact hC8.sf) (by rw [hlf]; exact hk)
  have hC3 := (hC8.lay hbt hft).drew
  rw [sfs_take hk, Nat.min_self] at hC3
  obtain ⟨v0, v1, v2, v3, v4, v5⟩ := hC8.box.cells
  obtain ⟨o0, o1, o2, _⟩ := hC3.box.cells
  have hqr3 : BoxD ((y8.setCell ⟨q, 1, none⟩ (.slice d1 k d2)).setCell ⟨q, 2, none⟩ (.slice e1 k e2)).drew (w.heap.size + 1) 0 (.slice none 0 0) (.slice none 0 0) := hq1.keep (hC3.bel.block _ hs1)
  have hlt : (bs.take k).length = k := by simp; omega
  have hD3 : Dv ((y8.setCell ⟨q, 1, none⟩ (.slice d1 k d2)).setCell ⟨q, 2, none⟩ (.slice e1 k e2)).drew (.slice d1 k d2) (.slice e1 k e2) (bs.take k) k := ⟨hC3.by_.mono (Nat.zero_le _), by rw [hlt]; exact hC3.sf.mono (Nat.zero_le _), by omega⟩
  have hb3 : Below w.heap.size w ((y8.setCell ⟨q, 1, none⟩ (.slice d1 k d2)).setCell ⟨q, 2, none⟩ (.slice e1 k e2)).drew := hb0.trans (hC3.bel.mono hb0.size)
  have hW3 := hC3.bas
  have hkd : k ≤ d2 := by omega
  have hke : k ≤ e2 := by omega
  clear hsf hC hbt hft hC8 hqa hqr hq0 hq1 hb0 hC3 x0 x1 x2 y0 y1 y2 z0 z1 z2 hHeld hy8 hb8
  have hs3 : w.heap.size + 1 < (((y8.setCell ⟨q, 1, none⟩ (.slice d1 k d2)).setCell ⟨q, 2, none⟩ (.slice e1 k e2)).drew).heap.size := hqr3.lt
  obtain ⟨V, hV⟩ : ∃ V, V = ((y8.setCell ⟨q, 1, none⟩ (.slice d1 k d2)).setCell ⟨q, 2, none⟩ (.slice e1 k e2)).drew := ⟨_, rfl⟩
  rw [← hV] at o0 o1 o2 hqr3 hD3 hb3 hW3 hs3
  have hsy := rsync_any Bi V hD3 (by omega)
  rw [hlt] at hsy
  rcases hcc with ⟨h0, hL0⟩ | ⟨h0, rfl⟩ | ⟨rfl, hL0⟩ | ⟨h0, rfl⟩
  all_goals go_wp2_with fail
  all_goals go_region
  all_goals rw [← hV]
  all_goals clear hV
  all_goals go_wp2_with fail
  all_goals
    refine hsy.mono ?_
    rintro e w2 ⟨da', sa', rfl, hD2⟩
    obtain ⟨hbx, hdn⟩ := Dn.ret (B := Bi) hD2 (hb3.trans (hD2.bel.mono hb3.size)) hb3.size (hqr3.below hD2.bel) (by omega) hs3
    obtain ⟨f1, f2, g1, g2, rfl, rfl, _⟩ := hD2.dv.open
    obtain ⟨i0, i1, i2, j0, j1, j2⟩ := (hqr3.below hD2.bel).cells
    obtain ⟨u0, u1, u2, _⟩ := hbx.cells
    rw [hlt] at u0 u1 u2 hdn
    rw [hlt]
    clear hsy hD2 hbx hqr3 hD3 hb3 o0 o1 o2 v0 v1 v2 v3 v4 v5
    go_wp2_with fail
    refine bodyPost_ret (v := .agg #[.int .i64 Bi, .slice f1 k f2, .slice g1 k g2]) (by simp [results, Try.results31, go_sem, u0, u1, u2]) rfl ?_
    exact ⟨_, _, rfl, hdn⟩

set_option maxRecDepth 100000 in
set_option maxHeartbeats 3200000 in
theorem rcrash_pos {da sa : Value} {bs : List Nat} {k : Nat} (B : Nat) (w : World) (h : Dv w da sa bs k) (hr : B + bs.length ≤ 9223372036854775807) (hl : bs.length ≤ 211106232532800) (E : Int) (t : Nat) (ht : t < 256) (h8 : All8 bs) (c : Nat) (hc0 : 0 < c) (hc : c = min E.toNat (bs.length - k)) :
    Calls Try.prog 31 #[.agg #[.int .i64 (B : Int), da, sa], .int .i64 E, .int .u8 (t : Int)] w fun e w' => ∃ da' sa', e = .returned (.agg #[.int .i64 (B : Int), da', sa']) ∧ Dn w da' sa' (tear (bs.take (k + c)) t) (k + c) w' := by
  have hk := h.le
  obtain ⟨W0, hW0⟩ : ∃ W0, W0 = W2 w (B : Int) da sa := ⟨_, rfl⟩
  have hb0 := w2_below w (B : Int) da sa
  have hq0 := w2_arg w (B : Int) da sa
  have hq1 := w2_res w (B : Int) da sa
  rw [← hW0] at hb0 hq0 hq1
  obtain ⟨x0, x1, x2, _⟩ := hq0.cells
  have hcopy := (h.below hb0).copy (B : Int) hl
  have hsafe := fun w1 hb => rsafe_any B w1 ((h.below hb0).below (w' := w1) hb) hr
  have hlf := sfs_len h.le
  obtain ⟨a1, c1, a2, c2, hda, hsa, _⟩ := h.open
  obtain ⟨L, hL⟩ : ∃ L, L = bs.length - k := ⟨_, rfl⟩
  have hw : IntKind.i64.wrap ((bs.length : Int) - (k : Int)) = (L : Int) := by rw [IntKind.wrap_i64]; omega
  obtain ⟨S, hS⟩ : ∃ S, S = k + c := ⟨_, rfl⟩
  have hkS : k ≤ S := by omega
  have hS0 : 0 < S := by omega
  have hSl : S ≤ bs.length := by omega
  have hwk : IntKind.i64.wrap ((k : Int) + (c : Int)) = (S : Int) := by rw [IntKind.wrap_i64]; omega
  have hws : IntKind.i64.wrap ((S : Int) - 1) = ((S - 1 : Nat) : Int) := by rw [IntKind.wrap_i64]; omega
  obtain ⟨F, hF⟩ : ∃ F : Int, F = ((B + k : Nat) : Int) := ⟨_, rfl⟩
  have hw2 : IntKind.i64.wrap (F - (B : Int)) = (k : Int) := by rw [IntKind.wrap_i64]; omega
  rw [← hF] at hsafe
  unfold W2 at hW0
  have hcc : (E = (c : Int) ∧ c < L) ∨ (c = L ∧ (L : Int) ≤ E ∧ ¬ E < 0) := by omega
  rw [← hS]
  obtain ⟨Bi, hBi⟩ : ∃ Bi : Int, Bi = (B : Int) := ⟨_, rfl⟩
  rw [← hBi] at hW0 hq0 x0 hcopy hsafe hw2
  rw [← hBi]
  clear h hr hF hBi hc hL hS
  subst hda
  subst hsa
  go_enter Try.func31, Try.ntmps31
  go_wp2_with fail
  rw [← hW0]
  clear hW0
  refine hcopy.mono ?_
  rintro e w1 ⟨da1, sa1, rfl, hD⟩
  have hC := hD.box Bi
  obtain ⟨d1, d2, e1, e2, rfl, rfl, _, _, hc1, hc2, _⟩ := hD.dv.open
  obtain ⟨q, hq⟩ : ∃ q, q = w1.heap.size := ⟨_, rfl⟩
  obtain ⟨Wa, hWa⟩ : ∃ Wa, Wa = w1.alloc (.cells #[.int .i64 Bi, .slice d1 bs.length d2, .slice e1 bs.length e2] 52) := ⟨_, rfl⟩
  rw [← hWa, ← hq] at hC
  have hqa := hq0.keep (hC.bel.block w.heap.size hq0.lt)
  have hqr : BoxD Wa (w.heap.size + 1) 0 (.slice none 0 0) (.slice none 0 0) := hq1.keep (hC.bel.block (w.heap.size + 1) hq1.lt)
  have hs1 := hq1.lt
  obtain ⟨x0, x1, x2, _⟩ := hqa.cells
  obtain ⟨y0, y1, y2, z0, z1, z2⟩ := hC.box.cells
  have hsf := hsafe Wa.drew hC.bel.drew
  have hpa := hqa.lt
  have hpq := hC.box.lt
  clear hcopy hD hsafe
  go_wp2_with fail
  rw [← hWa, ← hq]
  clear hWa hq
  refine wp_region_held_drew (S := (fun w' => Below Wa.heap.size Wa w')) (by kernel_rfl) ?_ (fun hHeld => ?_)
  · exact (Below.refl _ _).drew
  refine take_on (i := 0) (v := ?_) rfl rfl (by kernel_rfl) (by kernel_rfl) (by kernel_rfl) (fun _ _ _ h => h) rfl ?_ hHeld ?_
  rotate_left
  · (intro wq hSq; have q0 := (hSq.cell (p := ⟨w.heap.size, 0, none⟩) hpa).trans x0; have q1 := (hSq.cell (p := ⟨w.heap.size, 1, none⟩) hpa).trans x1; have q2 := (hSq.cell (p := ⟨w.heap.size, 2, none⟩) hpa).trans x2; go_simp <;> first | with_reducible rfl | rfl)
  simp only [Act.put, List.setIfInBounds_toArray, List.set_cons_zero, List.set_cons_succ]
  refine take_on (i := 2) (v := ?_) rfl rfl (by kernel_rfl) (by kernel_rfl) (by kernel_rfl) (fun _ _ _ h => h) rfl ?_ hHeld ?_
  rotate_left
  · (intro wq hSq; have q0 := (hSq.cell (p := ⟨w.heap.size, 0, none⟩) hpa).trans x0; have q1 := (hSq.cell (p := ⟨w.heap.size, 1, none⟩) hpa).trans x1; have q2 := (hSq.cell (p := ⟨w.heap.size, 2, none⟩) hpa).trans x2; go_simp <;> first | with_reducible rfl | rfl)
  simp only [Act.put, List.setIfInBounds_toArray, List.set_cons_zero, List.set_cons_succ]
  refine take_on (i := 3) (v := ?_) rfl rfl (by kernel_rfl) (by kernel_rfl) (by kernel_rfl) (fun _ _ _ h => h) rfl ?_ hHeld ?_
  rotate_left
  · (intro wq hSq; have q0 := (hSq.cell (p := ⟨w.heap.size, 0, none⟩) hpa).trans x0; have q1 := (hSq.cell (p := ⟨w.heap.size, 1, none⟩) hpa).trans x1; have q2 := (hSq.cell (p := ⟨w.heap.size, 2, none⟩) hpa).trans x2; go_simp <;> first | with_reducible rfl | rfl)
  simp only [Act.put, List.setIfInBounds_toArray, List.set_cons_zero, List.set_cons_succ]
  refine take_one (i := 1) rfl (by kernel_rfl) (fun K hK => ?_)
  go_simp
  refine hsf.mono ?_; rintro e y8 ⟨rfl, hb8⟩; have hy8 : Below Wa.heap.size Wa y8 := (Below.refl _ _).drew.trans hb8
  try go_wp2_with fail
  refine hK.out _ _ ?_ (fun hHeld => ?_)
  · exact hy8
  clear hK K
  try simp only [Act.put, List.setIfInBounds_toArray, List.set_cons_zero, List.set_cons_succ]
  refine take_on (i := 4) (v := ?_) rfl rfl (by kernel_rfl) (by kernel_rfl) (by kernel_rfl) (fun _ _ _ h => h) rfl ?_ hHeld ?_
  rotate_left
  · (intro wq hSq; have q0 := (hSq.cell (p := ⟨w.heap.size, 0, none⟩) hpa).trans x0; have q1 := (hSq.cell (p := ⟨w.heap.size, 1, none⟩) hpa).trans x1; have q2 := (hSq.cell (p := ⟨w.heap.size, 2, none⟩) hpa).trans x2; go_simp <;> first | with_reducible rfl | rfl)
  simp only [Act.put, List.setIfInBounds_toArray, List.set_cons_zero, List.set_cons_succ]
  refine take_on (i := 5) (v := ?_) rfl rfl (by kernel_rfl) (by kernel_rfl) (by kernel_rfl) (fun _ _ _ h => h) rfl ?_ hHeld ?_
  rotate_left
  · (intro wq hSq; have q0 := (hSq.cell (p := ⟨w.heap.size, 0, none⟩) hpa).trans x0; have q1 := (hSq.cell (p := ⟨w.heap.size, 1, none⟩) hpa).trans x1; have q2 := (hSq.cell (p := ⟨w.heap.size, 2, none⟩) hpa).trans x2; go_simp <;> first | with_reducible rfl | rfl)
  simp only [Act.put, List.setIfInBounds_toArray, List.set_cons_zero, List.set_cons_succ]
  refine wpAnyH_done (by kernel_rfl) ?_ _
  have hC8 : Cp W0 W0.heap.size y8 q Bi (.slice d1 bs.length d2) (.slice e1 bs.length e2) bs (sfs bs.length k) := ⟨hC.bel.trans (hy8.mono hC.bel.size), hC.box.below hy8, hC.by_.below hy8, hC.sf.below hy8, hC.low, Nat.le_trans hC.bas hy8.size⟩
  have hbt := OwB.take (m := S) hC8.by_ hSl
  have hft := OwO.take (m := S) (by rw [hlf]; exact hC8.sf) (by rw [hlf]; exact hSl)
  have hC3 := (hC8.lay hbt hft).drew
  rw [sfs_take hSl, Nat.min_eq_left hkS] at hC3
  obtain ⟨v0, v1, v2, v3, v4, v5⟩ := hC8.box.cells
  obtain ⟨o0, o1, o2, _⟩ := hC3.box.cells
  have hqr3 : BoxD ((y8.setCell ⟨q, 1, none⟩ (.slice d1 S d2)).setCell ⟨q, 2, none⟩ (.slice e1 S e2)).drew (w.heap.size + 1) 0 (.slice none 0 0) (.slice none 0 0) := hq1.keep (hC3.bel.block _ hs1)
  have hlt : (bs.take S).length = S := by simp; omega
  have hW3 := hC3.bas
  have hkd : S ≤ d2 := by omega
  have hke : S ≤ e2 := by omega
  clear hsf hC hbt hft hC8 hqa hqr hq0 hq1 x0 x1 x2 y0 y1 y2 z0 z1 z2 hHeld hy8 hb8
  obtain ⟨V, hV⟩ : ∃ V, V = ((y8.setCell ⟨q, 1, none⟩ (.slice d1 S d2)).setCell ⟨q, 2, none⟩ (.slice e1 S e2)).drew := ⟨_, rfl⟩
  rw [← hV] at o0 o1 o2 hqr3 hC3 hW3
  obtain ⟨a7, c7, e7, hrow7, _, _, _⟩ := hC3.by_.row
  rw [hlt] at e7
  cases e7
  obtain ⟨g, o9, rfl, hg, hcell⟩ := hrow7.here (i := 0) (by omega)
  have hci := hcell (S - 1) (by omega)
  have hb8 : at0 (bs.take S) (S - 1) < 256 := h8 _ (List.mem_of_mem_take (at0_mem (by omega)))
  have hx := u8_xor_nat _ t hb8 ht
  have hfz : V.frozen? ⟨g, o9 + (S - 1), none⟩ = false := thawS hC3.by_ _
  have hset : OwB (V.setCell ⟨g, o9 + (S - 1), none⟩ (.int .u8 ((at0 (bs.take S) (S - 1) ^^^ t : Nat) : Int))) W0.heap.size (.slice (some ⟨g, o9, none⟩) S d2) ((bs.take S).set (S - 1) (at0 (bs.take S) (S - 1) ^^^ t)) := by
    have := OwB.set (zs := bs.take S) (by rw [hlt]; exact hC3.by_) (i := S - 1) (by omega) (at0 (bs.take S) (S - 1) ^^^ t)
    rw [hlt] at this
    exact this
  have htr : (bs.take S).set (S - 1) (at0 (bs.take S) (S - 1) ^^^ t) = tear (bs.take S) t := by unfold tear; rw [hlt]
  rw [htr] at hset
  obtain ⟨X, hX⟩ : ∃ X, X = at0 (bs.take S) (S - 1) := ⟨_, rfl⟩
  obtain ⟨J, hJ⟩ : ∃ J, J = S - 1 := ⟨_, rfl⟩
  rw [← hX, ← hJ] at hci hset
  rw [← hX] at hx
  rw [← hJ] at hws hfz
  have hJS : J < S := by omega
  obtain ⟨U, hU⟩ : ∃ U, U = V.setCell ⟨g, o9 + J, none⟩ (.int .u8 ((X ^^^ t : Nat) : Int)) := ⟨_, rfl⟩
  rw [← hU] at hset
  have hgq : q ≠ g := fun e => hC3.by_.not_box hC3.box (by rw [e]; rfl)
  have hgl := (hC3.by_.inside g rfl)
  have hkU : ∀ j, j ≠ g → U.heap[j]? = V.heap[j]? := fun j hj => by rw [hU]; exact Below.heap_setCell _ _ _ _ hj
  have hqU := hC3.box.keep (hkU q hgq)
  have hlt2 : (tear (bs.take S) t).length = S := by unfold tear; rw [List.length_set, hlt]
  have hsU : OwO U W0.heap.size (.slice e1 S e2) (sfs S k) := hC3.sf.keep fun j hj => hkU j fun e => hC3.sf.not_B hC3.by_ hj (by rw [e]; rfl)
  have hD3 : Dv U (.slice (some ⟨g, o9, none⟩) S d2) (.slice e1 S e2) (tear (bs.take S) t) k := ⟨hset.mono (Nat.zero_le _), by rw [hlt2]; exact hsU.mono (Nat.zero_le _), by omega⟩
  have hqr4 : BoxD U (w.heap.size + 1) 0 (.slice none 0 0) (.slice none 0 0) := hqr3.keep (hkU _ (by omega))
  have hb3 : Below w.heap.size w U := by rw [hU]; exact (hb0.trans (hC3.bel.mono hb0.size)).setCell (by show w.heap.size ≤ g; have := hb0.size; omega) _
  have hs3 := hqr4.lt
  have hsy := rsync_any Bi U hD3 (by omega)
  rw [hlt2] at hsy
  obtain ⟨p0, p1, p2, _⟩ := hqU.cells
  have hcz : (c : Int) > 0 := by omega
  clear hX hJ htr hC3 hset hqr3 hrow7 hcell hqU hsU hkU hb0 hb8
  rcases hcc with ⟨rfl, hL0⟩ | ⟨rfl, hL0, h0⟩
  all_goals go_wp2_with fail
  all_goals go_region
  all_goals rw [← hV]
  all_goals clear hV
  all_goals go_wp2_with fail
  all_goals rw [← hU]
  all_goals clear hU
  all_goals
    refine hsy.mono ?_
    rintro e w2 ⟨da', sa', rfl, hD2⟩
    obtain ⟨hbx, hdn⟩ := Dn.ret (B := Bi) hD2 (hb3.trans (hD2.bel.mono hb3.size)) hb3.size (hqr4.below hD2.bel) (by omega) hs3
    obtain ⟨f1, f2, g1, g2, rfl, rfl, _⟩ := hD2.dv.open
    obtain ⟨i0, i1, i2, j0, j1, j2⟩ := (hqr4.below hD2.bel).cells
    obtain ⟨u0, u1, u2, _⟩ := hbx.cells
    rw [hlt2] at u0 u1 u2 hdn
    rw [hlt2]
    clear hsy hD2 hbx hqr4 hD3 hb3 o0 o1 o2 v0 v1 v2 v3 v4 v5 p0 p1 p2
    go_wp2_with fail
    refine bodyPost_ret (v := .agg #[.int .i64 Bi, .slice f1 S f2, .slice g1 S g2]) (by simp [results, Try.results31, go_sem, u0, u1, u2]) rfl ?_
    exact ⟨_, _, rfl, hdn⟩

theorem rcrash_any {da sa : Value} {bs : List Nat} {k : Nat} (B : Nat) (w : World) (h : Dv w da sa bs k) (hr : B + bs.length ≤ 9223372036854775807) (hl : bs.length ≤ 211106232532800) (E : Int) (t : Nat) (ht : t < 256) (h8 : All8 bs) (c : Nat) (hc : c = min E.toNat (bs.length - k)) :
    Calls Try.prog 31 #[.agg #[.int .i64 (B : Int), da, sa], .int .i64 E, .int .u8 (t : Int)] w fun e w' => ∃ da' sa', e = .returned (.agg #[.int .i64 (B : Int), da', sa']) ∧ Dn w da' sa' (crashB bs k c t) (k + c) w' := by
  unfold crashB
  by_cases h0 : 0 < c
  · rw [if_pos h0]; exact rcrash_pos B w h hr hl E t ht h8 c h0 hc
  · obtain rfl : c = 0 := by omega
    rw [if_neg h0]
    exact rcrash_zero B w h hr hl E t hc

end Go.Proofs.Ytejaaalgnbnalaa
