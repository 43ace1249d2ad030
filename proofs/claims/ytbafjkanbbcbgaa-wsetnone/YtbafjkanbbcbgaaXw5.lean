/- A write that is taken; Put and Delete. -/
import Derived.Test.YtbafjkanbbcbgaaXw4
namespace Go.Proofs.Ytbafjkanbbcbgaa
open Go.RowKit Go.Maps

theorem rowB_key {w3 : World} {a : Option Addr} {z : List Nat} {B : Nat} {k : ByteArray} {v1 v2 v3 : Value} {t : TypeId} (h : RowB w3 a z) (hk : w3.heap[B]? = some (.cells #[.string k, v1, v2, v3] t (0, 0))) : RowB (w3.setCell ⟨B, 0, none⟩ (.string k)) a z := by
  rcases h with h0 | ⟨q, o, e1, h5, h6⟩
  · exact .inl h0
  · refine .inr ⟨q, o, e1, by simpa using h5, fun i hi => ?_⟩
    have h7 := h6 i hi
    by_cases hqB : q = B
    · subst hqB
      have h8 : (w3.setCell ⟨q, 0, none⟩ (.string k)).heap[q]? = some (.cells #[.string k, v1, v2, v3] t (0, 0)) := by rw [heap_setCell_same _ _ _ _ _ _ hk]; rfl
      rw [cell_of_row _ _ _ _ _ _ h8, ← cell_of_row _ _ _ _ _ _ hk]; exact h7
    · rw [World.cell?_of_block (w := w3) (a := ⟨q, o + i, none⟩) (Below.heap_setCell _ _ _ _ (by show q ≠ B; exact hqB))]; exact h7
theorem write_up {W2 : World} {F2 : Nat → Prop} {s b B : Nat} {M : List Vn} (h : Wst W2 F2 s (some b) M) (hB : ¬ F2 B) {x : Vn} (hn : x.n = 0) (he : errA x.k x.z = 0) (hl : M.length + 1 ≤ 4000000000000) :
    ∀ W3, Chg (fun j => j = B) W2 W3 → ∀ z, Below W3.heap.size W3 z → ∀ a c, OwnB z W3.heap.size (.slice a x.z.length c) x.z → ∃ z', (Instr.mapUpdate 30 (.map (some b)) (.string x.k) (verV (movX x a c))).run Try.prog z = .ok () z' ∧ Wst z' (upto F2 W3 z') s (some b) (layM M (movX x a c)) ∧ Chg F2 W3 z' := fun W3 hc z hz a c hv => by
  have h3 := h.chg hc fun j hj hF => hB (hj ▸ hF)
  have h4 := h3.below hz
  have hkl : x.k.size ≤ maxLen := by have := errA_ok he; unfold maxLen; omega
  have hkey := WideMaps.keyOf_string_mk (P := Try.prog) Try.underlying9 hkl
  obtain ⟨z', g1, g2, g3⟩ := (h4.map b rfl).1.update law_string Try.underlying30 (by unfold maxLen; omega) hkey (verR_ok (movX x a c) hv.plain)
  have g4 := owns_len g2
  rw [show (DataW.put (datW M) (Lit.string x.k.data.toList) (datX (movX x a c))) = datW (layM M (movX x a c)) from (datW_layM (movX x a c) M).symm, size_datW, datW_layM] at g4
  obtain ⟨r1, r2⟩ := wst_lay h3 (x := movX x a c) hn he hl hz hv g3 g2 g4
  exact ⟨z', g1, r1, r2⟩

set_option maxRecDepth 100000 in
set_option maxHeartbeats 4000000 in
theorem write_some {w : World} {F : Nat → Prop} {s b : Nat} {M : List Vn} (h : Wst w F s (some b) M) (x : Vn) (hr : RowB w x.a x.z) (hnil : x.a = none → x.z.length = 0 ∧ x.c = 0) (hn : x.n = 0) (he : errA x.k x.z = 0) (hl : M.length + 1 ≤ 4000000000000) :
    Calls Try.prog 37 #[.pointer (some ⟨s, 0, none⟩), verV x] w fun e w' => e = .returned (.int .i64 0) ∧ Wrote w F s (layA (saysV M) (ky x, verOf x)) w' := by
  obtain ⟨c0, f0⟩ := h.cell
  have hs := h.slt
  have hFl := h.lt
  obtain ⟨hk1, hk2, hz4⟩ := errA_ok he
  have c1i : ¬ (x.k.size : Int) < 1 := by omega
  have c2i : ¬ (x.k.size : Int) > 255 := by omega
  have c3i : ¬ (x.z.length : Int) > 4096 := by omega
  have hcl := fun z => textClone_any x.k z (by omega)
  have hnw := fun z hz => anew_any x z (hr.below hz) (by omega) hnil
  obtain ⟨W, hW⟩ : ∃ W, W = w.alloc (.cells #[.string x.k, .int .i64 x.n, .slice x.a x.z.length x.c, .bool x.d] 41) := ⟨_, rfl⟩
  have hbW : Below w.heap.size w W := by rw [hW]; exact (Below.refl _ _).alloc (Nat.le_refl _) _
  have hzW : W.heap.size = w.heap.size + 1 := by rw [hW]; simp
  have kW : W.heap[w.heap.size]? = some (.cells #[.string x.k, .int .i64 x.n, .slice x.a x.z.length x.c, .bool x.d] 41 (0, 0)) := by rw [hW]; exact heap_alloc_new w _
  have hW0 := h.below hbW
  have hW1 := hW0
  obtain ⟨W2, hW2⟩ : ∃ W2, W2 = W := ⟨_, rfl⟩
  have hz2 : W2.heap.size = w.heap.size + 1 := by rw [hW2]; exact hzW
  have k2 : W2.heap[w.heap.size]? = some (.cells #[.string x.k, .int .i64 x.n, .slice x.a x.z.length x.c, .bool x.d] 41 (0, 0)) := by rw [hW2]; exact kW
  rw [← hW2] at hW1
  have hcw : Chg F w W2 := by rw [hW2]; exact Chg.new hbW
  have hF2 : ∀ j, F j → upto F w W2 j := fun j hj => .inl hj
  have hnB : ¬ F w.heap.size := fun e => by have := hFl _ e; omega
  have hup := write_up hW1 hnB hn he hl
  have ca := hW0.cell.1
  have hn2 : ∀ z, Below W2.heap.size W2 z → RowB z x.a x.z := fun z hz => (hr.below (by rw [hW2]; exact hbW)).below hz
  have hsz := hW1.slt
  have cs := hW1.cell.1
  have HUP := hide_it hup
  have HF2 := hide_it hF2
  have HCW := hide_it hcw
  have HFL := hide_it hFl
  have HN2 := hide_it hn2
  have HN := hide_it hnil
  have hsb := hW1.blk
  try rw [hzW] at hsb
  have HSB := hide_it hsb
  have hkx : x.k.size ≤ 140737488355328 := by omega
  have hzx : x.z.length ≤ 140737488355328 := by omega
  have hq1 := eqlSome
  have hq2 := eqlNil
  have hmm := @run_makeMap Try.prog
  clear hup hF2 hcw hFl hn2 hnil hnw hr he hl hk1 hk2 hz4 hn
  unfold verV
  go_enter Try.func37, Try.ntmps37
  go_wp2_with fail
  rw [← hW, ← hW2]
  clear hW hW2
  refine (hcl _).mono ?_
  rintro e w3 ⟨rfl, hb3⟩
  have q3 := (hb3.block w.heap.size (by omega)).trans k2
  have fB := fun j => frozen_of_row w3 _ j _ _ q3
  have gB := cell_of_row _ _ 0 _ _ _ q3
  have hc3 : Chg (fun j => j = w.heap.size) W2 (w3.setCell ⟨w.heap.size, 0, none⟩ (.string x.k)) := (Chg.new hb3).setCell _ _ fun _ => rfl
  have HC3 := hide_it hc3
  have q4 : (w3.setCell ⟨w.heap.size, 0, none⟩ (.string x.k)).heap[w.heap.size]? = some (.cells #[.string x.k, .int .i64 x.n, .slice x.a x.z.length x.c, .bool x.d] 41 (0, 0)) := by rw [heap_setCell_same _ _ _ _ _ _ q3]; rfl
  have q5 : (w3.setCell ⟨w.heap.size, 0, none⟩ (.string x.k)).heap[s]? = some (.cells #[.map (some b)] 32 (0, 0)) := by
    rw [Below.heap_setCell _ _ _ _ (by show s ≠ w.heap.size; omega)]; exact (hb3.block s (by omega)).trans HSB.out
  have hz3 := hb3.size
  have hzx2 : (w3.setCell ⟨w.heap.size, 0, none⟩ (.string x.k)).heap.size = w3.heap.size := by simp
  have HR3 : Hid (RowB (w3.setCell ⟨w.heap.size, 0, none⟩ (.string x.k)) x.a x.z) := hide_it (rowB_key (HN2.out _ hb3) q3)
  clear hcl hb3 q3 hc3 k2 cs ca
  go_wp2_with fail
  obtain ⟨W3, hW3⟩ : ∃ W3, W3 = w3.setCell ⟨w.heap.size, 0, none⟩ (.string x.k) := ⟨_, rfl⟩
  rw [← hW3] at HC3 q4 q5 hzx2 HR3 ⊢
  have hB3 : w.heap.size < W3.heap.size := by omega
  have hs3 : s < W3.heap.size := by omega
  have p0 := cell_of_row _ _ 0 _ _ _ q4
  have p1 := cell_of_row _ _ 1 _ _ _ q4
  have p2 := cell_of_row _ _ 2 _ _ _ q4
  have p3 := cell_of_row _ _ 3 _ _ _ q4
  have p4 := cell_of_row _ _ 0 _ _ _ q5
  have hnw := fun z (hz : Below W3.heap.size W3 z) => anew_any x z (HR3.out.below hz) hzx HN.out
  simp only [verV, movX] at hnw
  have HNB := hide_it hnB
  have fin_w : ∀ (z2 : World) (a9 : Option Addr) (c9 : Nat), (Wst z2 (upto F W3 z2) s (some b) (layM M (movX x a9 c9)) ∧ Chg F W3 z2) → Wrote w F s (layA (saysV M) (ky x, verOf x)) z2 := fun z2 a9 c9 hr => by
    have hc := HC3.out
    have hzz := hr.2.size
    refine ⟨_, _, hr.1.mono (fun j hj => ?_) (upto_in HFL.out (by omega)), says_layM _ _, ?_⟩
    · rcases hj with hj | hj
      · exact (HF2.out j hj).imp id fun e => ⟨e.1, by omega⟩
      · exact .inr ⟨by omega, hj.2⟩
    · refine (HCW.out.trans hc fun j hj e => ?_).trans hr.2 fun j hj e => ?_
      · exact absurd e (by show j ≠ w.heap.size; omega)
      · rcases HF2.out j e with e | e
        · exact e
        · omega
  have HFW := hide_it fin_w
  clear fin_w
  clear hW3 fB gB
  refine wp_region_held_drew (S := (fun w' => w'.heap[w.heap.size]? = W3.heap[w.heap.size]? ∧ w'.heap[s]? = W3.heap[s]?)) (by kernel_rfl) ?_ (fun hHeld => ?_)
  · exact ⟨rfl, rfl⟩
  refine take_on (i := 0) (v := ?_) rfl rfl (by kernel_rfl) (by kernel_rfl) (by kernel_rfl) (fun _ _ _ h => h) rfl ?_ hHeld ?_
  rotate_left
  · (intro wq hSq; have s0 := (World.cell?_of_block (w := W3) (a := ⟨w.heap.size, 0, none⟩) hSq.1).trans p0; have s1 := (World.cell?_of_block (w := W3) (a := ⟨w.heap.size, 1, none⟩) hSq.1).trans p1; have s2 := (World.cell?_of_block (w := W3) (a := ⟨w.heap.size, 2, none⟩) hSq.1).trans p2; have s3 := (World.cell?_of_block (w := W3) (a := ⟨w.heap.size, 3, none⟩) hSq.1).trans p3; have s4 := (World.cell?_of_block (w := W3) (a := ⟨s, 0, none⟩) hSq.2).trans p4; go_simp <;> first | with_reducible rfl | rfl)
  simp only [Act.put, List.setIfInBounds_toArray, List.set_cons_zero, List.set_cons_succ]
  refine take_on (i := 1) (v := ?_) rfl rfl (by kernel_rfl) (by kernel_rfl) (by kernel_rfl) (fun _ _ _ h => h) rfl ?_ hHeld ?_
  rotate_left
  · (intro wq hSq; have s0 := (World.cell?_of_block (w := W3) (a := ⟨w.heap.size, 0, none⟩) hSq.1).trans p0; have s1 := (World.cell?_of_block (w := W3) (a := ⟨w.heap.size, 1, none⟩) hSq.1).trans p1; have s2 := (World.cell?_of_block (w := W3) (a := ⟨w.heap.size, 2, none⟩) hSq.1).trans p2; have s3 := (World.cell?_of_block (w := W3) (a := ⟨w.heap.size, 3, none⟩) hSq.1).trans p3; have s4 := (World.cell?_of_block (w := W3) (a := ⟨s, 0, none⟩) hSq.2).trans p4; go_simp <;> first | with_reducible rfl | rfl)
  simp only [Act.put, List.setIfInBounds_toArray, List.set_cons_zero, List.set_cons_succ]
  refine take_on (i := 2) (v := ?_) rfl rfl (by kernel_rfl) (by kernel_rfl) (by kernel_rfl) (fun _ _ _ h => h) rfl ?_ hHeld ?_
  rotate_left
  · (intro wq hSq; have s0 := (World.cell?_of_block (w := W3) (a := ⟨w.heap.size, 0, none⟩) hSq.1).trans p0; have s1 := (World.cell?_of_block (w := W3) (a := ⟨w.heap.size, 1, none⟩) hSq.1).trans p1; have s2 := (World.cell?_of_block (w := W3) (a := ⟨w.heap.size, 2, none⟩) hSq.1).trans p2; have s3 := (World.cell?_of_block (w := W3) (a := ⟨w.heap.size, 3, none⟩) hSq.1).trans p3; have s4 := (World.cell?_of_block (w := W3) (a := ⟨s, 0, none⟩) hSq.2).trans p4; go_simp <;> first | with_reducible rfl | rfl)
  simp only [Act.put, List.setIfInBounds_toArray, List.set_cons_zero, List.set_cons_succ]
  refine take_on (i := 3) (v := ?_) rfl rfl (by kernel_rfl) (by kernel_rfl) (by kernel_rfl) (fun _ _ _ h => h) rfl ?_ hHeld ?_
  rotate_left
  · (intro wq hSq; have s0 := (World.cell?_of_block (w := W3) (a := ⟨w.heap.size, 0, none⟩) hSq.1).trans p0; have s1 := (World.cell?_of_block (w := W3) (a := ⟨w.heap.size, 1, none⟩) hSq.1).trans p1; have s2 := (World.cell?_of_block (w := W3) (a := ⟨w.heap.size, 2, none⟩) hSq.1).trans p2; have s3 := (World.cell?_of_block (w := W3) (a := ⟨w.heap.size, 3, none⟩) hSq.1).trans p3; have s4 := (World.cell?_of_block (w := W3) (a := ⟨s, 0, none⟩) hSq.2).trans p4; go_simp <;> first | with_reducible rfl | rfl)
  simp only [Act.put, List.setIfInBounds_toArray, List.set_cons_zero, List.set_cons_succ]
  refine take_on (i := 4) (v := ?_) rfl rfl (by kernel_rfl) (by kernel_rfl) (by kernel_rfl) (fun _ _ _ h => h) rfl ?_ hHeld ?_
  rotate_left
  · (intro wq hSq; have s0 := (World.cell?_of_block (w := W3) (a := ⟨w.heap.size, 0, none⟩) hSq.1).trans p0; have s1 := (World.cell?_of_block (w := W3) (a := ⟨w.heap.size, 1, none⟩) hSq.1).trans p1; have s2 := (World.cell?_of_block (w := W3) (a := ⟨w.heap.size, 2, none⟩) hSq.1).trans p2; have s3 := (World.cell?_of_block (w := W3) (a := ⟨w.heap.size, 3, none⟩) hSq.1).trans p3; have s4 := (World.cell?_of_block (w := W3) (a := ⟨s, 0, none⟩) hSq.2).trans p4; go_simp <;> first | with_reducible rfl | rfl)
  simp only [Act.put, List.setIfInBounds_toArray, List.set_cons_zero, List.set_cons_succ]
  refine take_on (i := 5) (v := ?_) rfl rfl (by kernel_rfl) (by kernel_rfl) (by kernel_rfl) (fun _ _ _ h => h) rfl ?_ hHeld ?_
  rotate_left
  · (intro wq hSq; have s0 := (World.cell?_of_block (w := W3) (a := ⟨w.heap.size, 0, none⟩) hSq.1).trans p0; have s1 := (World.cell?_of_block (w := W3) (a := ⟨w.heap.size, 1, none⟩) hSq.1).trans p1; have s2 := (World.cell?_of_block (w := W3) (a := ⟨w.heap.size, 2, none⟩) hSq.1).trans p2; have s3 := (World.cell?_of_block (w := W3) (a := ⟨w.heap.size, 3, none⟩) hSq.1).trans p3; have s4 := (World.cell?_of_block (w := W3) (a := ⟨s, 0, none⟩) hSq.2).trans p4; go_simp <;> first | with_reducible rfl | rfl)
  simp only [Act.put, List.setIfInBounds_toArray, List.set_cons_zero, List.set_cons_succ]
  refine take_on (i := 6) (v := ?_) rfl rfl (by kernel_rfl) (by kernel_rfl) (by kernel_rfl) (fun _ _ _ h => h) rfl ?_ hHeld ?_
  rotate_left
  · (intro wq hSq; have s0 := (World.cell?_of_block (w := W3) (a := ⟨w.heap.size, 0, none⟩) hSq.1).trans p0; have s1 := (World.cell?_of_block (w := W3) (a := ⟨w.heap.size, 1, none⟩) hSq.1).trans p1; have s2 := (World.cell?_of_block (w := W3) (a := ⟨w.heap.size, 2, none⟩) hSq.1).trans p2; have s3 := (World.cell?_of_block (w := W3) (a := ⟨w.heap.size, 3, none⟩) hSq.1).trans p3; have s4 := (World.cell?_of_block (w := W3) (a := ⟨s, 0, none⟩) hSq.2).trans p4; go_simp <;> first | with_reducible rfl | rfl)
  simp only [Act.put, List.setIfInBounds_toArray, List.set_cons_zero, List.set_cons_succ]
  refine take_one (i := 7) rfl (by kernel_rfl) (fun K hK => ?_)
  go_simp
  (refine (hnw _ (Below.refl _ _).drew).mono ?_; rintro e z1 ⟨⟨a9, c9, rfl, hv9⟩, hz1⟩; have hy1 : Below W3.heap.size W3 z1 := (Below.refl _ _).drew.trans hz1; obtain ⟨z2, hrun, HR⟩ := HUP.out W3 HC3.out z1 hy1 a9 c9 hv9; replace HR := hide_it HR; simp only [verV, movX] at hrun; clear hv9)
  try go_wp2_with fail
  refine hK.out _ _ ?_ (fun hHeld => ?_)
  · exact ⟨hy1.block _ hB3, hy1.block _ hs3⟩
  clear hK K
  try simp only [Act.put, List.setIfInBounds_toArray, List.set_cons_zero, List.set_cons_succ]
  refine take_one (i := 8) rfl (by kernel_rfl) (fun K hK => ?_)
  go_simp
  refine hK.out _ _ ?_ (fun hHeld => ?_)
  · exact ⟨HR.out.2.block _ hB3 HNB.out, HR.out.1.blk.trans q5.symm⟩
  clear hK K
  try simp only [Act.put, List.setIfInBounds_toArray, List.set_cons_zero, List.set_cons_succ]
  refine wpAnyH_done (by kernel_rfl) ?_ _
  go_wp2
  go_ret
  exact ⟨rfl, HFW.out _ _ _ HR.out⟩

set_option maxRecDepth 100000 in
set_option maxHeartbeats 4000000 in
theorem write_none_map {w : World} {F : Nat → Prop} {s : Nat} {M : List Vn} (h : Wst w F s none M) (x : Vn) (hr : RowB w x.a x.z) (hnil : x.a = none → x.z.length = 0 ∧ x.c = 0) (hn : x.n = 0) (he : errA x.k x.z = 0) (hl : M.length + 1 ≤ 4000000000000) :
    Calls Try.prog 37 #[.pointer (some ⟨s, 0, none⟩), verV x] w fun e w' => e = .returned (.int .i64 0) ∧ Wrote w F s (layA (saysV M) (ky x, verOf x)) w' := by
  obtain ⟨c0, f0⟩ := h.cell
  have hs := h.slt
  have hFl := h.lt
  obtain ⟨hk1, hk2, hz4⟩ := errA_ok he
  have c1i : ¬ (x.k.size : Int) < 1 := by omega
  have c2i : ¬ (x.k.size : Int) > 255 := by omega
  have c3i : ¬ (x.z.length : Int) > 4096 := by omega
  have hcl := fun z => textClone_any x.k z (by omega)
  have hnw := fun z hz => anew_any x z (hr.below hz) (by omega) hnil
  obtain ⟨W, hW⟩ : ∃ W, W = w.alloc (.cells #[.string x.k, .int .i64 x.n, .slice x.a x.z.length x.c, .bool x.d] 41) := ⟨_, rfl⟩
  have hbW : Below w.heap.size w W := by rw [hW]; exact (Below.refl _ _).alloc (Nat.le_refl _) _
  have hzW : W.heap.size = w.heap.size + 1 := by rw [hW]; simp
  have kW : W.heap[w.heap.size]? = some (.cells #[.string x.k, .int .i64 x.n, .slice x.a x.z.length x.c, .bool x.d] 41 (0, 0)) := by rw [hW]; exact heap_alloc_new w _
  have hW0 := h.below hbW
  have hs1 : s < W.heap.size := by omega
  have hM0 := h.nomap rfl
  obtain ⟨hW1, hcm⟩ := wst_map hW0
  obtain ⟨W2, hW2⟩ : ∃ W2, W2 = (W.alloc (.map #[] 0)).setCell ⟨s, 0, none⟩ (.map (some W.heap.size)) := ⟨_, rfl⟩
  have hz2 : W2.heap.size = w.heap.size + 2 := by rw [hW2]; simp [hzW]
  have k2 : W2.heap[w.heap.size]? = some (.cells #[.string x.k, .int .i64 x.n, .slice x.a x.z.length x.c, .bool x.d] 41 (0, 0)) := by
    rw [hW2, Below.heap_setCell _ _ _ _ (by show w.heap.size ≠ s; omega), Below.heap_alloc _ _ _ (by omega)]; exact kW
  have hwm : ((w.setCell ⟨s, 0, none⟩ (.map (some (w.heap.size + 1)))).alloc (.cells #[.string x.k, .int .i64 x.n, .slice x.a x.z.length x.c, .bool x.d] 41)).alloc (.map #[] 0) = W2 := by
    rw [← World.setCell_alloc_past _ _ _ _ hs, ← World.setCell_alloc_past _ _ _ _ (by simp; omega), ← hW, hW2, hzW]
  have HWM := hide_it hwm
  clear hwm
  rw [← hW2] at hW1 hcm
  have ca := hW0.cell.1
  have fa := hW0.cell.2 0
  have cm : (W.alloc (.map #[] 0)).cell? ⟨s, 0, none⟩ = some (.map none) := (((Below.refl W.heap.size W).alloc (Nat.le_refl _) (.map #[] 0)).cell (p := ⟨s, 0, none⟩) hs1).trans ca
  have fm : (W.alloc (.map #[] 0)).frozen? ⟨s, 0, none⟩ = false := (((Below.refl W.heap.size W).alloc (Nat.le_refl _) (.map #[] 0)).frozen (p := ⟨s, 0, none⟩) hs1).trans fa
  have hcw : Chg F w W2 := (Chg.new hbW).trans hcm fun j _ hj => hj
  have hF2 : ∀ j, upto F W (W.alloc (.map #[] 0)) j → upto F w W2 j := fun j hj => hj.imp id fun e => ⟨by have := e.1; omega, by have := e.2; simp at this; omega⟩
  have hnB : ¬ upto F W (W.alloc (.map #[] 0)) w.heap.size := fun e => by
    rcases e with e | e
    · have := hFl _ e; omega
    · have := e.1; omega
  have hup := write_up hW1 hnB hn he hl
  simp only [hzW] at hup
  have hn2 : ∀ z, Below W2.heap.size W2 z → RowB z x.a x.z := fun z hz => by
    refine RowB.below ?_ hz
    rw [hW2]
    rcases hr with h0 | h0
    · exact .inl h0
    · obtain ⟨q, o, e1, h5, h6⟩ := h0
      by_cases h00 : x.z.length = 0
      · exact .inl h00
      refine .inr ⟨q, o, e1, by rw [← hW2]; omega, fun i hi => ?_⟩
      have hqs : q ≠ s := fun e => by
        have h7 := h6 i hi
        rw [e, cell_of_row _ _ _ _ _ _ h.blk] at h7
        cases ho : o + i with
        | zero => rw [ho] at h7; cases h7
        | succ m => rw [ho] at h7; simp at h7
      rw [World.cell?_of_block (w := (W.alloc (.map #[] 0))) (a := ⟨q, o + i, none⟩) (Below.heap_setCell _ _ _ _ (by show q ≠ s; exact hqs))]
      exact (((hbW.trans (((Below.refl W.heap.size W).alloc (Nat.le_refl _) (.map #[] 0)).mono hbW.size)).cell (p := ⟨q, o + i, none⟩) h5)).trans (h6 i hi)
  have hsz := hW1.slt
  have cs := hW1.cell.1
  have HUP := hide_it hup
  have HF2 := hide_it hF2
  have HCW := hide_it hcw
  have HFL := hide_it hFl
  have HN2 := hide_it hn2
  have HN := hide_it hnil
  have hsb := hW1.blk
  try rw [hzW] at hsb
  have HSB := hide_it hsb
  have hkx : x.k.size ≤ 140737488355328 := by omega
  have hzx : x.z.length ≤ 140737488355328 := by omega
  have hq1 := eqlSome
  have hq2 := eqlNil
  have hmm := @run_makeMap Try.prog
  clear hup hF2 hcw hFl hn2 hnil hnw hr he hl hk1 hk2 hz4 hn
  unfold verV
  go_enter Try.func37, Try.ntmps37
  go_wp2_with fail
  rw [HWM.out]
  clear hW hW2
  refine (hcl _).mono ?_
  rintro e w3 ⟨rfl, hb3⟩
  have q3 := (hb3.block w.heap.size (by omega)).trans k2
  have fB := fun j => frozen_of_row w3 _ j _ _ q3
  have gB := cell_of_row _ _ 0 _ _ _ q3
  have hc3 : Chg (fun j => j = w.heap.size) W2 (w3.setCell ⟨w.heap.size, 0, none⟩ (.string x.k)) := (Chg.new hb3).setCell _ _ fun _ => rfl
  have HC3 := hide_it hc3
  have q4 : (w3.setCell ⟨w.heap.size, 0, none⟩ (.string x.k)).heap[w.heap.size]? = some (.cells #[.string x.k, .int .i64 x.n, .slice x.a x.z.length x.c, .bool x.d] 41 (0, 0)) := by rw [heap_setCell_same _ _ _ _ _ _ q3]; rfl
  have q5 : (w3.setCell ⟨w.heap.size, 0, none⟩ (.string x.k)).heap[s]? = some (.cells #[.map (some (w.heap.size + 1))] 32 (0, 0)) := by
    rw [Below.heap_setCell _ _ _ _ (by show s ≠ w.heap.size; omega)]; exact (hb3.block s (by omega)).trans HSB.out
  have hz3 := hb3.size
  have hzx2 : (w3.setCell ⟨w.heap.size, 0, none⟩ (.string x.k)).heap.size = w3.heap.size := by simp
  have HR3 : Hid (RowB (w3.setCell ⟨w.heap.size, 0, none⟩ (.string x.k)) x.a x.z) := hide_it (rowB_key (HN2.out _ hb3) q3)
  clear hcl hb3 q3 hc3 k2 cs ca fa cm fm
  go_wp2_with fail
  obtain ⟨W3, hW3⟩ : ∃ W3, W3 = w3.setCell ⟨w.heap.size, 0, none⟩ (.string x.k) := ⟨_, rfl⟩
  rw [← hW3] at HC3 q4 q5 hzx2 HR3 ⊢
  have hB3 : w.heap.size < W3.heap.size := by omega
  have hs3 : s < W3.heap.size := by omega
  have p0 := cell_of_row _ _ 0 _ _ _ q4
  have p1 := cell_of_row _ _ 1 _ _ _ q4
  have p2 := cell_of_row _ _ 2 _ _ _ q4
  have p3 := cell_of_row _ _ 3 _ _ _ q4
  have p4 := cell_of_row _ _ 0 _ _ _ q5
  have hnw := fun z (hz : Below W3.heap.size W3 z) => anew_any x z (HR3.out.below hz) hzx HN.out
  simp only [verV, movX] at hnw
  have HNB := hide_it hnB
  have fin_w : ∀ (z2 : World) (a9 : Option Addr) (c9 : Nat), (Wst z2 (upto (upto F W (W.alloc (.map #[] 0))) W3 z2) s (some (w.heap.size + 1)) (layM M (movX x a9 c9)) ∧ Chg (upto F W (W.alloc (.map #[] 0))) W3 z2) → Wrote w F s (layA (saysV M) (ky x, verOf x)) z2 := fun z2 a9 c9 hr => by
    have hc := HC3.out
    have hzz := hr.2.size
    refine ⟨_, _, hr.1.mono (fun j hj => ?_) (upto_in HFL.out (by omega)), says_layM _ _, ?_⟩
    · rcases hj with hj | hj
      · exact (HF2.out j hj).imp id fun e => ⟨e.1, by omega⟩
      · exact .inr ⟨by omega, hj.2⟩
    · refine (HCW.out.trans hc fun j hj e => ?_).trans hr.2 fun j hj e => ?_
      · exact absurd e (by show j ≠ w.heap.size; omega)
      · rcases HF2.out j e with e | e
        · exact e
        · omega
  have HFW := hide_it fin_w
  clear fin_w
  clear hW3 fB gB
  refine wp_region_held_drew (S := (fun w' => w'.heap[w.heap.size]? = W3.heap[w.heap.size]? ∧ w'.heap[s]? = W3.heap[s]?)) (by kernel_rfl) ?_ (fun hHeld => ?_)
  · exact ⟨rfl, rfl⟩
  refine take_on (i := 0) (v := ?_) rfl rfl (by kernel_rfl) (by kernel_rfl) (by kernel_rfl) (fun _ _ _ h => h) rfl ?_ hHeld ?_
  rotate_left
  · (intro wq hSq; have s0 := (World.cell?_of_block (w := W3) (a := ⟨w.heap.size, 0, none⟩) hSq.1).trans p0; have s1 := (World.cell?_of_block (w := W3) (a := ⟨w.heap.size, 1, none⟩) hSq.1).trans p1; have s2 := (World.cell?_of_block (w := W3) (a := ⟨w.heap.size, 2, none⟩) hSq.1).trans p2; have s3 := (World.cell?_of_block (w := W3) (a := ⟨w.heap.size, 3, none⟩) hSq.1).trans p3; have s4 := (World.cell?_of_block (w := W3) (a := ⟨s, 0, none⟩) hSq.2).trans p4; go_simp <;> first | with_reducible rfl | rfl)
  simp only [Act.put, List.setIfInBounds_toArray, List.set_cons_zero, List.set_cons_succ]
  refine take_on (i := 1) (v := ?_) rfl rfl (by kernel_rfl) (by kernel_rfl) (by kernel_rfl) (fun _ _ _ h => h) rfl ?_ hHeld ?_
  rotate_left
  · (intro wq hSq; have s0 := (World.cell?_of_block (w := W3) (a := ⟨w.heap.size, 0, none⟩) hSq.1).trans p0; have s1 := (World.cell?_of_block (w := W3) (a := ⟨w.heap.size, 1, none⟩) hSq.1).trans p1; have s2 := (World.cell?_of_block (w := W3) (a := ⟨w.heap.size, 2, none⟩) hSq.1).trans p2; have s3 := (World.cell?_of_block (w := W3) (a := ⟨w.heap.size, 3, none⟩) hSq.1).trans p3; have s4 := (World.cell?_of_block (w := W3) (a := ⟨s, 0, none⟩) hSq.2).trans p4; go_simp <;> first | with_reducible rfl | rfl)
  simp only [Act.put, List.setIfInBounds_toArray, List.set_cons_zero, List.set_cons_succ]
  refine take_on (i := 2) (v := ?_) rfl rfl (by kernel_rfl) (by kernel_rfl) (by kernel_rfl) (fun _ _ _ h => h) rfl ?_ hHeld ?_
  rotate_left
  · (intro wq hSq; have s0 := (World.cell?_of_block (w := W3) (a := ⟨w.heap.size, 0, none⟩) hSq.1).trans p0; have s1 := (World.cell?_of_block (w := W3) (a := ⟨w.heap.size, 1, none⟩) hSq.1).trans p1; have s2 := (World.cell?_of_block (w := W3) (a := ⟨w.heap.size, 2, none⟩) hSq.1).trans p2; have s3 := (World.cell?_of_block (w := W3) (a := ⟨w.heap.size, 3, none⟩) hSq.1).trans p3; have s4 := (World.cell?_of_block (w := W3) (a := ⟨s, 0, none⟩) hSq.2).trans p4; go_simp <;> first | with_reducible rfl | rfl)
  simp only [Act.put, List.setIfInBounds_toArray, List.set_cons_zero, List.set_cons_succ]
  refine take_on (i := 3) (v := ?_) rfl rfl (by kernel_rfl) (by kernel_rfl) (by kernel_rfl) (fun _ _ _ h => h) rfl ?_ hHeld ?_
  rotate_left
  · (intro wq hSq; have s0 := (World.cell?_of_block (w := W3) (a := ⟨w.heap.size, 0, none⟩) hSq.1).trans p0; have s1 := (World.cell?_of_block (w := W3) (a := ⟨w.heap.size, 1, none⟩) hSq.1).trans p1; have s2 := (World.cell?_of_block (w := W3) (a := ⟨w.heap.size, 2, none⟩) hSq.1).trans p2; have s3 := (World.cell?_of_block (w := W3) (a := ⟨w.heap.size, 3, none⟩) hSq.1).trans p3; have s4 := (World.cell?_of_block (w := W3) (a := ⟨s, 0, none⟩) hSq.2).trans p4; go_simp <;> first | with_reducible rfl | rfl)
  simp only [Act.put, List.setIfInBounds_toArray, List.set_cons_zero, List.set_cons_succ]
  refine take_on (i := 4) (v := ?_) rfl rfl (by kernel_rfl) (by kernel_rfl) (by kernel_rfl) (fun _ _ _ h => h) rfl ?_ hHeld ?_
  rotate_left
  · (intro wq hSq; have s0 := (World.cell?_of_block (w := W3) (a := ⟨w.heap.size, 0, none⟩) hSq.1).trans p0; have s1 := (World.cell?_of_block (w := W3) (a := ⟨w.heap.size, 1, none⟩) hSq.1).trans p1; have s2 := (World.cell?_of_block (w := W3) (a := ⟨w.heap.size, 2, none⟩) hSq.1).trans p2; have s3 := (World.cell?_of_block (w := W3) (a := ⟨w.heap.size, 3, none⟩) hSq.1).trans p3; have s4 := (World.cell?_of_block (w := W3) (a := ⟨s, 0, none⟩) hSq.2).trans p4; go_simp <;> first | with_reducible rfl | rfl)
  simp only [Act.put, List.setIfInBounds_toArray, List.set_cons_zero, List.set_cons_succ]
  refine take_on (i := 5) (v := ?_) rfl rfl (by kernel_rfl) (by kernel_rfl) (by kernel_rfl) (fun _ _ _ h => h) rfl ?_ hHeld ?_
  rotate_left
  · (intro wq hSq; have s0 := (World.cell?_of_block (w := W3) (a := ⟨w.heap.size, 0, none⟩) hSq.1).trans p0; have s1 := (World.cell?_of_block (w := W3) (a := ⟨w.heap.size, 1, none⟩) hSq.1).trans p1; have s2 := (World.cell?_of_block (w := W3) (a := ⟨w.heap.size, 2, none⟩) hSq.1).trans p2; have s3 := (World.cell?_of_block (w := W3) (a := ⟨w.heap.size, 3, none⟩) hSq.1).trans p3; have s4 := (World.cell?_of_block (w := W3) (a := ⟨s, 0, none⟩) hSq.2).trans p4; go_simp <;> first | with_reducible rfl | rfl)
  simp only [Act.put, List.setIfInBounds_toArray, List.set_cons_zero, List.set_cons_succ]
  refine take_on (i := 6) (v := ?_) rfl rfl (by kernel_rfl) (by kernel_rfl) (by kernel_rfl) (fun _ _ _ h => h) rfl ?_ hHeld ?_
  rotate_left
  · (intro wq hSq; have s0 := (World.cell?_of_block (w := W3) (a := ⟨w.heap.size, 0, none⟩) hSq.1).trans p0; have s1 := (World.cell?_of_block (w := W3) (a := ⟨w.heap.size, 1, none⟩) hSq.1).trans p1; have s2 := (World.cell?_of_block (w := W3) (a := ⟨w.heap.size, 2, none⟩) hSq.1).trans p2; have s3 := (World.cell?_of_block (w := W3) (a := ⟨w.heap.size, 3, none⟩) hSq.1).trans p3; have s4 := (World.cell?_of_block (w := W3) (a := ⟨s, 0, none⟩) hSq.2).trans p4; go_simp <;> first | with_reducible rfl | rfl)
  simp only [Act.put, List.setIfInBounds_toArray, List.set_cons_zero, List.set_cons_succ]
  refine take_one (i := 7) rfl (by kernel_rfl) (fun K hK => ?_)
  go_simp
  (refine (hnw _ (Below.refl _ _).drew).mono ?_; rintro e z1 ⟨⟨a9, c9, rfl, hv9⟩, hz1⟩; have hy1 : Below W3.heap.size W3 z1 := (Below.refl _ _).drew.trans hz1; obtain ⟨z2, hrun, HR⟩ := HUP.out W3 HC3.out z1 hy1 a9 c9 hv9; replace HR := hide_it HR; simp only [verV, movX] at hrun; clear hv9)
  try go_wp2_with fail
  refine hK.out _ _ ?_ (fun hHeld => ?_)
  · exact ⟨hy1.block _ hB3, hy1.block _ hs3⟩
  clear hK K
  try simp only [Act.put, List.setIfInBounds_toArray, List.set_cons_zero, List.set_cons_succ]
  refine take_one (i := 8) rfl (by kernel_rfl) (fun K hK => ?_)
  go_simp
  refine hK.out _ _ ?_ (fun hHeld => ?_)
  · exact ⟨HR.out.2.block _ hB3 HNB.out, HR.out.1.blk.trans q5.symm⟩
  clear hK K
  try simp only [Act.put, List.setIfInBounds_toArray, List.set_cons_zero, List.set_cons_succ]
  refine wpAnyH_done (by kernel_rfl) ?_ _
  go_wp2
  go_ret
  exact ⟨rfl, HFW.out _ _ _ HR.out⟩

end Go.Proofs.Ytbafjkanbbcbgaa
