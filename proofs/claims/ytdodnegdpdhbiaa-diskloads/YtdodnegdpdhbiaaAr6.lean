/- The program's area, walked: Image, Load. -/
import Derived.Test.YtdodnegdpdhbiaaAr5
namespace Go.Proofs.Ytdodnegdpdhbiaa
open Go.RowKit

/-- What Image answers: the base and new memory. -/
structure Imaged (w : World) (B : Nat) (zs : List Nat) (e : Ending) (w' : World) : Prop where
  ex : ∃ r, e = .returned (.agg #[.int .i64 (B : Int), r]) ∧ OwB w' w.heap.size r zs
  bel : Below w.heap.size w w'

set_option maxRecDepth 100000 in
set_option maxHeartbeats 800000 in
theorem image_any {p o : Nat} {v : Value} {B : Nat} {bs : List Nat} {k : Nat} (w : World) (h : Ar w p o v B bs k) (hk : k ≤ bs.length) :
    Calls Try.prog 16 #[.pointer (some ⟨p, o, none⟩)] w fun e w' => Imaged w B (bs.take k) e w' := by
  have hb0 : Below w.heap.size w (w.alloc (.cells #[.int .i64 0, .slice none 0 0] 33)) := (Below.refl _ _).alloc (Nat.le_refl _) _
  obtain ⟨W0, hW0⟩ : ∃ W0, W0 = w.alloc (.cells #[.int .i64 0, .slice none 0 0] 33) := ⟨_, rfl⟩
  have hnew : W0.heap[w.heap.size]? = some (.cells #[.int .i64 0, .slice none 0 0] 33 (0, 0)) := by rw [hW0]; exact heap_alloc_new w _
  rw [← hW0] at hb0
  have hs0 : w.heap.size < W0.heap.size := (Array.getElem?_eq_some_iff.1 hnew).1
  have hA0 := h.below hb0
  have hplt := hA0.plt
  have hplw := h.plt
  obtain ⟨c0, c1, c2, f0, f1, f2⟩ := hA0.cells
  have hl := h.len
  obtain ⟨a, cap, rfl, hrow, hcap, hcm, hnil⟩ := hA0.own.row
  have hcut := OwB.take hA0.own hk
  have hlen : (bs.take k).length = k := by simp; omega
  obtain ⟨zs, hzs⟩ : ∃ zs, zs = bs.take k := ⟨_, rfl⟩
  rw [← hzs] at hcut hlen
  rw [← hzs]
  obtain ⟨a2, c2', e2, hrow2, _, _, hnil2⟩ := hcut.row
  rw [hlen] at e2
  cases e2
  have hfr := fresh_any a cap zs W0.drew (hrow2.below (Below.refl _ _).drew) (by omega) hnil2
  rw [hlen] at hfr
  have hkc : k ≤ cap := by omega
  clear h hA0 hcut hrow hrow2 hnil hnil2 hl hzs hlen hk hcap
  go_enter Try.func16, Try.ntmps16
  go_wp2_with fail
  rw [← hW0]
  clear hW0
  refine wp_region_held_drew (S := (fun w' => w'.heap[p]? = W0.heap[p]?)) (by kernel_rfl) ?_ (fun hHeld => ?_)
  · rfl
  refine take_on (i := 0) (v := ?_) rfl rfl (by kernel_rfl) (by kernel_rfl) (by kernel_rfl) (fun _ _ _ h => h) rfl ?_ hHeld ?_
  rotate_left
  · (intro wq hSq; have q0 := (World.cell?_of_block (w := W0) (a := ⟨p, o, none⟩) hSq).trans c0; have q1 := (World.cell?_of_block (w := W0) (a := ⟨p, o + 1, none⟩) hSq).trans c1; have q2 := (World.cell?_of_block (w := W0) (a := ⟨p, o + 2, none⟩) hSq).trans c2; go_simp <;> first | with_reducible rfl | rfl)
  simp only [Act.put, List.setIfInBounds_toArray, List.set_cons_zero, List.set_cons_succ]
  refine take_on (i := 1) (v := ?_) rfl rfl (by kernel_rfl) (by kernel_rfl) (by kernel_rfl) (fun _ _ _ h => h) rfl ?_ hHeld ?_
  rotate_left
  · (intro wq hSq; have q0 := (World.cell?_of_block (w := W0) (a := ⟨p, o, none⟩) hSq).trans c0; have q1 := (World.cell?_of_block (w := W0) (a := ⟨p, o + 1, none⟩) hSq).trans c1; have q2 := (World.cell?_of_block (w := W0) (a := ⟨p, o + 2, none⟩) hSq).trans c2; go_simp <;> first | with_reducible rfl | rfl)
  simp only [Act.put, List.setIfInBounds_toArray, List.set_cons_zero, List.set_cons_succ]
  refine take_on (i := 2) (v := ?_) rfl rfl (by kernel_rfl) (by kernel_rfl) (by kernel_rfl) (fun _ _ _ h => h) rfl ?_ hHeld ?_
  rotate_left
  · (intro wq hSq; have q0 := (World.cell?_of_block (w := W0) (a := ⟨p, o, none⟩) hSq).trans c0; have q1 := (World.cell?_of_block (w := W0) (a := ⟨p, o + 1, none⟩) hSq).trans c1; have q2 := (World.cell?_of_block (w := W0) (a := ⟨p, o + 2, none⟩) hSq).trans c2; go_simp <;> first | with_reducible rfl | rfl)
  simp only [Act.put, List.setIfInBounds_toArray, List.set_cons_zero, List.set_cons_succ]
  refine take_on (i := 3) (v := ?_) rfl rfl (by kernel_rfl) (by kernel_rfl) (by kernel_rfl) (fun _ _ _ h => h) rfl ?_ hHeld ?_
  rotate_left
  · (intro wq hSq; have q0 := (World.cell?_of_block (w := W0) (a := ⟨p, o, none⟩) hSq).trans c0; have q1 := (World.cell?_of_block (w := W0) (a := ⟨p, o + 1, none⟩) hSq).trans c1; have q2 := (World.cell?_of_block (w := W0) (a := ⟨p, o + 2, none⟩) hSq).trans c2; go_simp <;> first | with_reducible rfl | rfl)
  simp only [Act.put, List.setIfInBounds_toArray, List.set_cons_zero, List.set_cons_succ]
  refine take_on (i := 4) (v := ?_) rfl rfl (by kernel_rfl) (by kernel_rfl) (by kernel_rfl) (fun _ _ _ h => h) rfl ?_ hHeld ?_
  rotate_left
  · (intro wq hSq; have q0 := (World.cell?_of_block (w := W0) (a := ⟨p, o, none⟩) hSq).trans c0; have q1 := (World.cell?_of_block (w := W0) (a := ⟨p, o + 1, none⟩) hSq).trans c1; have q2 := (World.cell?_of_block (w := W0) (a := ⟨p, o + 2, none⟩) hSq).trans c2; go_simp <;> first | with_reducible rfl | rfl)
  simp only [Act.put, List.setIfInBounds_toArray, List.set_cons_zero, List.set_cons_succ]
  refine take_on (i := 5) (v := ?_) rfl rfl (by kernel_rfl) (by kernel_rfl) (by kernel_rfl) (fun _ _ _ h => h) rfl ?_ hHeld ?_
  rotate_left
  · (intro wq hSq; have q0 := (World.cell?_of_block (w := W0) (a := ⟨p, o, none⟩) hSq).trans c0; have q1 := (World.cell?_of_block (w := W0) (a := ⟨p, o + 1, none⟩) hSq).trans c1; have q2 := (World.cell?_of_block (w := W0) (a := ⟨p, o + 2, none⟩) hSq).trans c2; go_simp <;> first | with_reducible rfl | rfl)
  simp only [Act.put, List.setIfInBounds_toArray, List.set_cons_zero, List.set_cons_succ]
  refine take_on (i := 6) (v := ?_) rfl rfl (by kernel_rfl) (by kernel_rfl) (by kernel_rfl) (fun _ _ _ h => h) rfl ?_ hHeld ?_
  rotate_left
  · (intro wq hSq; have q0 := (World.cell?_of_block (w := W0) (a := ⟨p, o, none⟩) hSq).trans c0; have q1 := (World.cell?_of_block (w := W0) (a := ⟨p, o + 1, none⟩) hSq).trans c1; have q2 := (World.cell?_of_block (w := W0) (a := ⟨p, o + 2, none⟩) hSq).trans c2; go_simp <;> first | with_reducible rfl | rfl)
  simp only [Act.put, List.setIfInBounds_toArray, List.set_cons_zero, List.set_cons_succ]
  refine take_on (i := 7) (v := ?_) rfl rfl (by kernel_rfl) (by kernel_rfl) (by kernel_rfl) (fun _ _ _ h => h) rfl ?_ hHeld ?_
  rotate_left
  · (intro wq hSq; have q0 := (World.cell?_of_block (w := W0) (a := ⟨p, o, none⟩) hSq).trans c0; have q1 := (World.cell?_of_block (w := W0) (a := ⟨p, o + 1, none⟩) hSq).trans c1; have q2 := (World.cell?_of_block (w := W0) (a := ⟨p, o + 2, none⟩) hSq).trans c2; go_simp <;> first | with_reducible rfl | rfl)
  simp only [Act.put, List.setIfInBounds_toArray, List.set_cons_zero, List.set_cons_succ]
  refine take_on (i := 8) (v := ?_) rfl rfl (by kernel_rfl) (by kernel_rfl) (by kernel_rfl) (fun _ _ _ h => h) rfl ?_ hHeld ?_
  rotate_left
  · (intro wq hSq; have q0 := (World.cell?_of_block (w := W0) (a := ⟨p, o, none⟩) hSq).trans c0; have q1 := (World.cell?_of_block (w := W0) (a := ⟨p, o + 1, none⟩) hSq).trans c1; have q2 := (World.cell?_of_block (w := W0) (a := ⟨p, o + 2, none⟩) hSq).trans c2; go_simp <;> first | with_reducible rfl | rfl)
  simp only [Act.put, List.setIfInBounds_toArray, List.set_cons_zero, List.set_cons_succ]
  refine take_on (i := 9) (v := ?_) rfl rfl (by kernel_rfl) (by kernel_rfl) (by kernel_rfl) (fun _ _ _ h => h) rfl ?_ hHeld ?_
  rotate_left
  · (intro wq hSq; have q0 := (World.cell?_of_block (w := W0) (a := ⟨p, o, none⟩) hSq).trans c0; have q1 := (World.cell?_of_block (w := W0) (a := ⟨p, o + 1, none⟩) hSq).trans c1; have q2 := (World.cell?_of_block (w := W0) (a := ⟨p, o + 2, none⟩) hSq).trans c2; go_simp <;> first | with_reducible rfl | rfl)
  simp only [Act.put, List.setIfInBounds_toArray, List.set_cons_zero, List.set_cons_succ]
  refine take_on (i := 10) (v := ?_) rfl rfl (by kernel_rfl) (by kernel_rfl) (by kernel_rfl) (fun _ _ _ h => h) rfl ?_ hHeld ?_
  rotate_left
  · (intro wq hSq; have q0 := (World.cell?_of_block (w := W0) (a := ⟨p, o, none⟩) hSq).trans c0; have q1 := (World.cell?_of_block (w := W0) (a := ⟨p, o + 1, none⟩) hSq).trans c1; have q2 := (World.cell?_of_block (w := W0) (a := ⟨p, o + 2, none⟩) hSq).trans c2; go_simp <;> first | with_reducible rfl | rfl)
  simp only [Act.put, List.setIfInBounds_toArray, List.set_cons_zero, List.set_cons_succ]
  refine take_on (i := 11) (v := ?_) rfl rfl (by kernel_rfl) (by kernel_rfl) (by kernel_rfl) (fun _ _ _ h => h) rfl ?_ hHeld ?_
  rotate_left
  · (intro wq hSq; have q0 := (World.cell?_of_block (w := W0) (a := ⟨p, o, none⟩) hSq).trans c0; have q1 := (World.cell?_of_block (w := W0) (a := ⟨p, o + 1, none⟩) hSq).trans c1; have q2 := (World.cell?_of_block (w := W0) (a := ⟨p, o + 2, none⟩) hSq).trans c2; go_simp <;> first | with_reducible rfl | rfl)
  simp only [Act.put, List.setIfInBounds_toArray, List.set_cons_zero, List.set_cons_succ]
  refine take_on (i := 12) (v := ?_) rfl rfl (by kernel_rfl) (by kernel_rfl) (by kernel_rfl) (fun _ _ _ h => h) rfl ?_ hHeld ?_
  rotate_left
  · (intro wq hSq; have q0 := (World.cell?_of_block (w := W0) (a := ⟨p, o, none⟩) hSq).trans c0; have q1 := (World.cell?_of_block (w := W0) (a := ⟨p, o + 1, none⟩) hSq).trans c1; have q2 := (World.cell?_of_block (w := W0) (a := ⟨p, o + 2, none⟩) hSq).trans c2; go_simp <;> first | with_reducible rfl | rfl)
  simp only [Act.put, List.setIfInBounds_toArray, List.set_cons_zero, List.set_cons_succ]
  refine take_one (i := 13) rfl (by kernel_rfl) (fun K hK => ?_)
  go_simp
  refine hfr.mono ?_; rintro e y1 ⟨⟨r, rfl, hown⟩, hb1⟩; have hy := (hb1.block w.heap.size hs0).trans hnew; have y0 := cell_of_row _ _ 0 _ _ _ hy; have y1' := cell_of_row _ _ 1 _ _ _ hy; have z0 := frozen_of_row _ _ 0 _ _ hy; have z1 := frozen_of_row _ _ 1 _ _ hy; obtain ⟨a9, c9, e9, _⟩ := hown.row; subst e9
  try go_wp2_with fail
  refine hK.out _ _ ?_ (fun hHeld => ?_)
  · exact hb1.block p hplt
  clear hK K
  try simp only [Act.put, List.setIfInBounds_toArray, List.set_cons_zero, List.set_cons_succ]
  refine take_on (i := 14) (v := ?_) rfl rfl (by kernel_rfl) (by kernel_rfl) (by kernel_rfl) (fun _ _ _ h => h) rfl ?_ hHeld ?_
  rotate_left
  · (intro wq hSq; have q0 := (World.cell?_of_block (w := W0) (a := ⟨p, o, none⟩) hSq).trans c0; have q1 := (World.cell?_of_block (w := W0) (a := ⟨p, o + 1, none⟩) hSq).trans c1; have q2 := (World.cell?_of_block (w := W0) (a := ⟨p, o + 2, none⟩) hSq).trans c2; go_simp <;> first | with_reducible rfl | rfl)
  simp only [Act.put, List.setIfInBounds_toArray, List.set_cons_zero, List.set_cons_succ]
  refine take_one (i := 15) rfl (by kernel_rfl) (fun K hK => ?_)
  go_simp
  skip
  try go_wp2_with fail
  refine hK.out _ _ ?_ (fun hHeld => ?_)
  · exact (Below.heap_setCell _ _ _ _ (by show p ≠ w.heap.size; omega)).trans ((Below.heap_setCell _ _ _ _ (by show p ≠ w.heap.size; omega)).trans hHeld)
  clear hK K
  try simp only [Act.put, List.setIfInBounds_toArray, List.set_cons_zero, List.set_cons_succ]
  refine wpAnyH_done (by kernel_rfl) ?_ _
  have hs1 := hb1.size
  have hk1 := heap_setCell_same _ w.heap.size 1 _ _ (.slice a9 zs.length c9) (heap_setCell_same _ w.heap.size 0 _ _ (.int .i64 (B : Int)) hy)
  have x0 := cell_of_row _ _ 0 _ _ _ hk1
  have x1 := cell_of_row _ _ 1 _ _ _ hk1
  have hbe : Below w.heap.size w ((y1.setCell ⟨w.heap.size, 0, none⟩ (.int .i64 (B : Int))).setCell ⟨w.heap.size, 1, none⟩ (.slice a9 zs.length c9)) :=
    ((hb0.trans (((Below.refl _ _).drew.trans hb1).mono (Nat.le_of_lt hs0))).setCell (Nat.le_refl _) _).setCell (Nat.le_refl _) _
  have hoe : OwB ((y1.setCell ⟨w.heap.size, 0, none⟩ (.int .i64 (B : Int))).setCell ⟨w.heap.size, 1, none⟩ (.slice a9 zs.length c9)) w.heap.size (.slice a9 zs.length c9) zs :=
    (hown.mono (Nat.le_of_lt hs0)).keep fun j hj => by
      have hj2 : W0.heap.size ≤ j := (hown.inside j hj).1
      exact (Below.heap_setCell _ _ _ _ (by show j ≠ w.heap.size; omega)).trans (Below.heap_setCell _ _ _ _ (by show j ≠ w.heap.size; omega))
  clear hy hk1 y0 y1' hfr
  go_wp2_with fail
  refine bodyPost_ret (v := .agg #[.int .i64 (B : Int), .slice a9 zs.length c9]) (by simp [results, Try.results16, go_sem, x0, x1]) rfl ?_
  exact ⟨⟨_, rfl, hoe⟩, hbe⟩

set_option maxRecDepth 100000 in
set_option maxHeartbeats 400000 in
theorem load_no (w : World) (E : Int) (v : Value) (hE : E < 0 ∨ 4611686018427387904 < E) (a : Option Addr) (n c : Nat) (hv : v = .slice a n c) :
    Calls Try.prog 12 #[.agg #[.int .i64 E, v]] w fun e w' => e = .returned (.tuple #[.pointer none, .int .i64 2]) ∧ Below w.heap.size w w' := by
  subst hv
  have hb := (Below.refl w.heap.size w).alloc (Nat.le_refl _) (.cells #[.int .i64 E, .slice a n c] 33)
  by_cases h1 : E < 0
  · have hd : decide (E < 0) = true := by simpa using h1
    clear hE
    go_enter Try.func12, Try.ntmps12
    go_wp2_with fail
    refine bodyPost_ret (v := .tuple #[.pointer none, .int .i64 2]) (by simp [results, Try.results12, go_sem]) rfl ?_
    exact ⟨rfl, hb⟩
  · have hd : decide (E < 0) = false := by simp; omega
    have hd2 : decide (4611686018427387904 < E) = true := by simp; omega
    clear hE h1
    go_enter Try.func12, Try.ntmps12
    go_wp2_with fail
    refine bodyPost_ret (v := .tuple #[.pointer none, .int .i64 2]) (by simp [results, Try.results12, go_sem]) rfl ?_
    exact ⟨rfl, hb⟩

/-- What Load answers: an area in new memory. -/
structure Loaded (w : World) (B : Nat) (zs : List Nat) (e : Ending) (w' : World) : Prop where
  ex : ∃ q v, e = .returned (.tuple #[.pointer (some ⟨q, 0, none⟩), .int .i64 0]) ∧ Ar w' q 0 v B zs zs.length ∧ w.heap.size ≤ q ∧ ∀ j, v.ownBlock = some j → w.heap.size ≤ j
  bel : Below w.heap.size w w'

set_option maxRecDepth 100000 in
set_option maxHeartbeats 800000 in
theorem load_ok (w : World) (B : Nat) (hB : B ≤ 4611686018427387904) (a : Option Addr) (cap : Nat) (zs : List Nat) (hr : RowB w a zs) (h8 : All8 zs) (hl : zs.length ≤ 211106232532800) (hnil : a = none → zs.length = 0 ∧ cap = 0) :
    Calls Try.prog 12 #[.agg #[.int .i64 (B : Int), .slice a zs.length cap]] w fun e w' => Loaded w B zs e w' := by
  have hb0 : Below w.heap.size w (w.alloc (.cells #[.int .i64 (B : Int), .slice a zs.length cap] 33)) := (Below.refl _ _).alloc (Nat.le_refl _) _
  obtain ⟨W0, hW0⟩ : ∃ W0, W0 = w.alloc (.cells #[.int .i64 (B : Int), .slice a zs.length cap] 33) := ⟨_, rfl⟩
  have hnew : W0.heap[w.heap.size]? = some (.cells #[.int .i64 (B : Int), .slice a zs.length cap] 33 (0, 0)) := by rw [hW0]; exact heap_alloc_new w _
  rw [← hW0] at hb0
  have hs0 : w.heap.size < W0.heap.size := (Array.getElem?_eq_some_iff.1 hnew).1
  have c0 := cell_of_row _ _ 0 _ _ _ hnew
  have c1 := cell_of_row _ _ 1 _ _ _ hnew
  have hfr := fresh_any a cap zs W0.drew (hr.below (hb0.trans ((Below.refl _ _).drew))) hl hnil
  have hd : decide ((B : Int) < 0) = false := by simp
  have hd2 : decide (4611686018427387904 < (B : Int)) = false := by simp; omega
  have hroom : Hid (B + zs.length ≤ 9223372036854775807) := by unfold Hid; omega
  obtain ⟨Bi, hBi⟩ : ∃ Bi : Int, Bi = (B : Int) := ⟨_, rfl⟩
  rw [← hBi] at hW0 c0 hd hd2 hnew
  rw [← hBi]
  replace hBi := hide_it hBi
  clear hr hnil hB
  go_enter Try.func12, Try.ntmps12
  go_wp2_with fail
  rw [← hW0]
  clear hW0
  refine wp_region_held_drew (S := (fun w' => w'.heap[w.heap.size]? = W0.heap[w.heap.size]?)) (by kernel_rfl) ?_ (fun hHeld => ?_)
  · rfl
  refine take_on (i := 0) (v := ?_) rfl rfl (by kernel_rfl) (by kernel_rfl) (by kernel_rfl) (fun _ _ _ h => h) rfl ?_ hHeld ?_
  rotate_left
  · (intro wq hSq; have q0 := (World.cell?_of_block (w := W0) (a := ⟨w.heap.size, 0, none⟩) hSq).trans c0; have q1 := (World.cell?_of_block (w := W0) (a := ⟨w.heap.size, 1, none⟩) hSq).trans c1; go_simp <;> first | with_reducible rfl | rfl)
  simp only [Act.put, List.setIfInBounds_toArray, List.set_cons_zero, List.set_cons_succ]
  refine take_on (i := 1) (v := ?_) rfl rfl (by kernel_rfl) (by kernel_rfl) (by kernel_rfl) (fun _ _ _ h => h) rfl ?_ hHeld ?_
  rotate_left
  · (intro wq hSq; have q0 := (World.cell?_of_block (w := W0) (a := ⟨w.heap.size, 0, none⟩) hSq).trans c0; have q1 := (World.cell?_of_block (w := W0) (a := ⟨w.heap.size, 1, none⟩) hSq).trans c1; go_simp <;> first | with_reducible rfl | rfl)
  simp only [Act.put, List.setIfInBounds_toArray, List.set_cons_zero, List.set_cons_succ]
  refine take_on (i := 2) (v := ?_) rfl rfl (by kernel_rfl) (by kernel_rfl) (by kernel_rfl) (fun _ _ _ h => h) rfl ?_ hHeld ?_
  rotate_left
  · (intro wq hSq; have q0 := (World.cell?_of_block (w := W0) (a := ⟨w.heap.size, 0, none⟩) hSq).trans c0; have q1 := (World.cell?_of_block (w := W0) (a := ⟨w.heap.size, 1, none⟩) hSq).trans c1; go_simp <;> first | with_reducible rfl | rfl)
  simp only [Act.put, List.setIfInBounds_toArray, List.set_cons_zero, List.set_cons_succ]
  refine take_on (i := 3) (v := ?_) rfl rfl (by kernel_rfl) (by kernel_rfl) (by kernel_rfl) (fun _ _ _ h => h) rfl ?_ hHeld ?_
  rotate_left
  · (intro wq hSq; have q0 := (World.cell?_of_block (w := W0) (a := ⟨w.heap.size, 0, none⟩) hSq).trans c0; have q1 := (World.cell?_of_block (w := W0) (a := ⟨w.heap.size, 1, none⟩) hSq).trans c1; go_simp <;> first | with_reducible rfl | rfl)
  simp only [Act.put, List.setIfInBounds_toArray, List.set_cons_zero, List.set_cons_succ]
  refine take_on (i := 4) (v := ?_) rfl rfl (by kernel_rfl) (by kernel_rfl) (by kernel_rfl) (fun _ _ _ h => h) rfl ?_ hHeld ?_
  rotate_left
  · (intro wq hSq; have q0 := (World.cell?_of_block (w := W0) (a := ⟨w.heap.size, 0, none⟩) hSq).trans c0; have q1 := (World.cell?_of_block (w := W0) (a := ⟨w.heap.size, 1, none⟩) hSq).trans c1; go_simp <;> first | with_reducible rfl | rfl)
  simp only [Act.put, List.setIfInBounds_toArray, List.set_cons_zero, List.set_cons_succ]
  refine take_on (i := 5) (v := ?_) rfl rfl (by kernel_rfl) (by kernel_rfl) (by kernel_rfl) (fun _ _ _ h => h) rfl ?_ hHeld ?_
  rotate_left
  · (intro wq hSq; have q0 := (World.cell?_of_block (w := W0) (a := ⟨w.heap.size, 0, none⟩) hSq).trans c0; have q1 := (World.cell?_of_block (w := W0) (a := ⟨w.heap.size, 1, none⟩) hSq).trans c1; go_simp <;> first | with_reducible rfl | rfl)
  simp only [Act.put, List.setIfInBounds_toArray, List.set_cons_zero, List.set_cons_succ]
  refine take_on (i := 6) (v := ?_) rfl rfl (by kernel_rfl) (by kernel_rfl) (by kernel_rfl) (fun _ _ _ h => h) rfl ?_ hHeld ?_
  rotate_left
  · (intro wq hSq; have q0 := (World.cell?_of_block (w := W0) (a := ⟨w.heap.size, 0, none⟩) hSq).trans c0; have q1 := (World.cell?_of_block (w := W0) (a := ⟨w.heap.size, 1, none⟩) hSq).trans c1; go_simp <;> first | with_reducible rfl | rfl)
  simp only [Act.put, List.setIfInBounds_toArray, List.set_cons_zero, List.set_cons_succ]
  refine take_one (i := 7) rfl (by kernel_rfl) (fun K hK => ?_)
  go_simp
  refine hfr.mono ?_; rintro e y1 ⟨⟨r, rfl, hown⟩, hb1⟩; have hs1 := hb1.size; obtain ⟨a9, c9, e9, _⟩ := hown.row; subst e9
  try go_wp2_with fail
  refine hK.out _ _ ?_ (fun hHeld => ?_)
  · exact hb1.block w.heap.size hs0
  clear hK K
  try simp only [Act.put, List.setIfInBounds_toArray, List.set_cons_zero, List.set_cons_succ]
  refine take_on (i := 8) (v := ?_) rfl rfl (by kernel_rfl) (by kernel_rfl) (by kernel_rfl) (fun _ _ _ h => h) rfl ?_ hHeld ?_
  rotate_left
  · (intro wq hSq; have q0 := (World.cell?_of_block (w := W0) (a := ⟨w.heap.size, 0, none⟩) hSq).trans c0; have q1 := (World.cell?_of_block (w := W0) (a := ⟨w.heap.size, 1, none⟩) hSq).trans c1; go_simp <;> first | with_reducible rfl | rfl)
  simp only [Act.put, List.setIfInBounds_toArray, List.set_cons_zero, List.set_cons_succ]
  refine take_one (i := 9) rfl (by kernel_rfl) (fun K hK => ?_)
  go_simp
  skip
  try go_wp2_with fail
  refine hK.out _ _ ?_ (fun hHeld => ?_)
  · exact (Below.heap_alloc y1 _ _ (by simp at hs1; omega)).trans hHeld
  clear hK K
  try simp only [Act.put, List.setIfInBounds_toArray, List.set_cons_zero, List.set_cons_succ]
  refine take_on (i := 10) (v := ?_) rfl rfl (by kernel_rfl) (by kernel_rfl) (by kernel_rfl) (fun _ _ _ h => h) rfl ?_ hHeld ?_
  rotate_left
  · (intro wq hSq; have q0 := (World.cell?_of_block (w := W0) (a := ⟨w.heap.size, 0, none⟩) hSq).trans c0; have q1 := (World.cell?_of_block (w := W0) (a := ⟨w.heap.size, 1, none⟩) hSq).trans c1; go_simp <;> first | with_reducible rfl | rfl)
  simp only [Act.put, List.setIfInBounds_toArray, List.set_cons_zero, List.set_cons_succ]
  refine take_on (i := 11) (v := ?_) rfl rfl (by kernel_rfl) (by kernel_rfl) (by kernel_rfl) (fun _ _ _ h => h) rfl ?_ hHeld ?_
  rotate_left
  · (intro wq hSq; have q0 := (World.cell?_of_block (w := W0) (a := ⟨w.heap.size, 0, none⟩) hSq).trans c0; have q1 := (World.cell?_of_block (w := W0) (a := ⟨w.heap.size, 1, none⟩) hSq).trans c1; go_simp <;> first | with_reducible rfl | rfl)
  simp only [Act.put, List.setIfInBounds_toArray, List.set_cons_zero, List.set_cons_succ]
  refine wpAnyH_done (by kernel_rfl) ?_ _
  change W0.heap.size ≤ y1.heap.size at hs1
  change OwB y1 W0.heap.size _ zs at hown
  have hnb := heap_alloc_new y1 (.cells #[.int .i64 Bi, .int .i64 (zs.length : Int), .slice a9 zs.length c9] 100)
  have hAe : Ar (y1.alloc (.cells #[.int .i64 Bi, .int .i64 (zs.length : Int), .slice a9 zs.length c9] 100)) y1.heap.size 0 (.slice a9 zs.length c9) B zs zs.length :=
    ⟨⟨_, _, hnb, by rw [← hBi.out]; rfl, rfl, rfl⟩, OwnS.alloc (hown.mono (Nat.zero_le _)) _, (fun e => by have := (hown.inside _ e).2; omega), h8, hl, hroom.out⟩
  have hbe : Below w.heap.size w (y1.alloc (.cells #[.int .i64 Bi, .int .i64 (zs.length : Int), .slice a9 zs.length c9] 100)) :=
    (hb0.trans (((Below.refl _ _).drew.trans hb1).mono (Nat.le_of_lt hs0))).alloc (by omega) _
  have hld : Loaded w B zs (.returned (.tuple #[.pointer (some ⟨y1.heap.size, 0, none⟩), .int .i64 0])) (y1.alloc (.cells #[.int .i64 Bi, .int .i64 (zs.length : Int), .slice a9 zs.length c9] 100)) :=
    ⟨⟨_, _, rfl, hAe, by omega, fun j hj => by have := (hown.inside j hj).1; omega⟩, hbe⟩
  clear hAe hbe hnb hfr
  go_wp2_with fail
  refine bodyPost_ret (v := .tuple #[.pointer (some ⟨y1.heap.size, 0, none⟩), .int .i64 0]) (by simp [results, Try.results12, go_sem]) rfl ?_
  exact hld

end Go.Proofs.Ytdodnegdpdhbiaa
