/- One call of a queue that is not there, and of the document's empty one. -/
import Derived.Test.YtomfhbngpikjeaaQuDo4
namespace Go.Proofs.Ytomfhbngpikjeaa
open Go.RowKit

/-- What does answers then. -/
def DidN (w w' : World) (e : Ending) : Prop := e = .returned (.tuple #[.bool true, .agg #[.int .i64 0, .slice none 0 0]]) ∧ Below w.heap.size w w'
theorem didN_same {w W w6 : World} (hWs : W.heap.size = w.heap.size + 1 + 1 + 1) (hW : Below w.heap.size w W) (h6 : Below W.heap.size W w6) :
    DidN w ((w6.setCell ⟨w.heap.size + 1 + 1, 0, none⟩ (.int .i64 0)).setCell ⟨w.heap.size + 1 + 1, 1, none⟩ (.slice none 0 0)) (.returned (.tuple #[.bool true, .agg #[.int .i64 0, .slice none 0 0]])) := by
  have s6 := h6.size
  exact ⟨rfl, ((hW.trans (h6.mono (by omega))).setCell (p := ⟨w.heap.size + 1 + 1, 0, none⟩) (by simp; omega) _).setCell (p := ⟨w.heap.size + 1 + 1, 1, none⟩) (by simp; omega) _⟩
theorem DidN.drew {w w' : World} {e : Ending} (h : DidN w w' e) : DidN w w'.drew e := ⟨h.1, h.2.drew⟩

set_option maxRecDepth 100000 in
set_option maxHeartbeats 2000000 in
theorem none_else (k : Int) (s : ByteArray) (w : World) (h0 : ¬ k = 0) (h1 : ¬ k = 1) (h2 : ¬ k = 2) (h3 : ¬ k = 3) (h4 : ¬ k = 4) (h5 : ¬ k = 5) :
    Calls Try.prog 15 #[.pointer none, .agg #[.int .i64 0, .slice none 0 0], .agg #[.int .i64 k, .string s]] w fun e w' => DidN w w' e := by
  have hpre := pre_made w 0 (.slice none 0 0) k s
  obtain ⟨W, hW⟩ : ∃ W, W = (((w.alloc (.cells #[.int .i64 0, .slice none 0 0] 24)).alloc (.cells #[.int .i64 k, .string s] 38)).alloc (.cells #[.int .i64 0, .slice none 0 0] 24)) := ⟨_, rfl⟩
  rw [Int.natCast_zero, ← hW] at hpre
  have c0 := cell_of_row _ _ 0 _ _ _ hpre.want
  have c1 := cell_of_row _ _ 1 _ _ _ hpre.want
  have c2 := cell_of_row _ _ 0 _ _ _ hpre.step
  have c3 := cell_of_row _ _ 1 _ _ _ hpre.step
  simp only [List.getElem?_toArray, List.getElem?_cons_zero, List.getElem?_cons_succ, Int.natCast_zero] at c0 c1 c2 c3
  have hres := hpre.res
  have e0 := cell_of_row _ _ 0 _ _ _ hres
  have e1 := cell_of_row _ _ 1 _ _ _ hres
  have f0 := frozen_of_row _ _ 0 _ _ hres
  have f1 := frozen_of_row _ _ 1 _ _ hres
  simp only [List.getElem?_toArray, List.getElem?_cons_zero, List.getElem?_cons_succ] at e0 e1
  clear hres
  have hsz := hpre.size
  have HP := hide_it hpre
  clear hpre
  go_enter Try.func15, Try.ntmps15
  go_wp2
  rw [← hW]
  clear hW
  go_region
  all_goals go_wp2
  all_goals (refine bodyPost_ret (v := .tuple #[.bool true, .agg #[.int .i64 0, .slice none 0 0]]) (by simp [results, Try.results15, go_sem, e0, e1]) rfl ?_)
  all_goals exact (didN_same hsz HP.out.below (Below.refl _ _)).drew

set_option maxRecDepth 100000 in
set_option maxHeartbeats 2000000 in
theorem none_len (s : ByteArray) (w : World) :
    Calls Try.prog 15 #[.pointer none, .agg #[.int .i64 0, .slice none 0 0], .agg #[.int .i64 3, .string s]] w fun e w' => DidN w w' e := by
  have hpre := pre_made w 0 (.slice none 0 0) 3 s
  obtain ⟨W, hW⟩ : ∃ W, W = (((w.alloc (.cells #[.int .i64 0, .slice none 0 0] 24)).alloc (.cells #[.int .i64 3, .string s] 38)).alloc (.cells #[.int .i64 0, .slice none 0 0] 24)) := ⟨_, rfl⟩
  rw [Int.natCast_zero, ← hW] at hpre
  have c0 := cell_of_row _ _ 0 _ _ _ hpre.want
  have c1 := cell_of_row _ _ 1 _ _ _ hpre.want
  have c2 := cell_of_row _ _ 0 _ _ _ hpre.step
  have c3 := cell_of_row _ _ 1 _ _ _ hpre.step
  simp only [List.getElem?_toArray, List.getElem?_cons_zero, List.getElem?_cons_succ, Int.natCast_zero] at c0 c1 c2 c3
  have hres := hpre.res
  have e0 := cell_of_row _ _ 0 _ _ _ hres
  have e1 := cell_of_row _ _ 1 _ _ _ hres
  have f0 := frozen_of_row _ _ 0 _ _ hres
  have f1 := frozen_of_row _ _ 1 _ _ hres
  simp only [List.getElem?_toArray, List.getElem?_cons_zero, List.getElem?_cons_succ] at e0 e1
  clear hres
  have hle1 := lenS_none (W.drewN 1)
  have hsz := hpre.size
  have HP := hide_it hpre
  clear hpre
  go_enter Try.func15, Try.ntmps15
  go_wp2_with fail
  rw [← hW]
  clear hW
  refine wp_region_held_drew (S := (fun w' => w'.heap[w.heap.size]? = W.heap[w.heap.size]?)) (by kernel_rfl) ?_ (fun hHeld => ?_)
  · rfl
  refine take_on (i := 0) (v := ?_) rfl rfl (by kernel_rfl) (by kernel_rfl) (by kernel_rfl) (fun _ _ _ h => h) rfl ?_ hHeld ?_
  rotate_left
  · (intro wq hSq; have q0 := (World.cell?_of_block (w := W) (a := ⟨w.heap.size, 0, none⟩) hSq).trans c0; have q1 := (World.cell?_of_block (w := W) (a := ⟨w.heap.size, 1, none⟩) hSq).trans c1; go_simp <;> first | with_reducible rfl | rfl)
  simp only [Act.put, List.setIfInBounds_toArray, List.set_cons_zero, List.set_cons_succ]
  refine take_on (i := 2) (v := ?_) rfl rfl (by kernel_rfl) (by kernel_rfl) (by kernel_rfl) (fun _ _ _ h => h) rfl ?_ hHeld ?_
  rotate_left
  · (intro wq hSq; have q0 := (World.cell?_of_block (w := W) (a := ⟨w.heap.size, 0, none⟩) hSq).trans c0; have q1 := (World.cell?_of_block (w := W) (a := ⟨w.heap.size, 1, none⟩) hSq).trans c1; go_simp <;> first | with_reducible rfl | rfl)
  simp only [Act.put, List.setIfInBounds_toArray, List.set_cons_zero, List.set_cons_succ]
  refine take_on (i := 3) (v := ?_) rfl rfl (by kernel_rfl) (by kernel_rfl) (by kernel_rfl) (fun _ _ _ h => h) rfl ?_ hHeld ?_
  rotate_left
  · (intro wq hSq; have q0 := (World.cell?_of_block (w := W) (a := ⟨w.heap.size, 0, none⟩) hSq).trans c0; have q1 := (World.cell?_of_block (w := W) (a := ⟨w.heap.size, 1, none⟩) hSq).trans c1; go_simp <;> first | with_reducible rfl | rfl)
  simp only [Act.put, List.setIfInBounds_toArray, List.set_cons_zero, List.set_cons_succ]
  refine take_on (i := 4) (v := ?_) rfl rfl (by kernel_rfl) (by kernel_rfl) (by kernel_rfl) (fun _ _ _ h => h) rfl ?_ hHeld ?_
  rotate_left
  · (intro wq hSq; have q0 := (World.cell?_of_block (w := W) (a := ⟨w.heap.size, 0, none⟩) hSq).trans c0; have q1 := (World.cell?_of_block (w := W) (a := ⟨w.heap.size, 1, none⟩) hSq).trans c1; go_simp <;> first | with_reducible rfl | rfl)
  simp only [Act.put, List.setIfInBounds_toArray, List.set_cons_zero, List.set_cons_succ]
  refine take_on (i := 6) (v := ?_) rfl rfl (by kernel_rfl) (by kernel_rfl) (by kernel_rfl) (fun _ _ _ h => h) rfl ?_ hHeld ?_
  rotate_left
  · (intro wq hSq; have q0 := (World.cell?_of_block (w := W) (a := ⟨w.heap.size, 0, none⟩) hSq).trans c0; have q1 := (World.cell?_of_block (w := W) (a := ⟨w.heap.size, 1, none⟩) hSq).trans c1; go_simp <;> first | with_reducible rfl | rfl)
  simp only [Act.put, List.setIfInBounds_toArray, List.set_cons_zero, List.set_cons_succ]
  refine take_one (i := 1) rfl (by kernel_rfl) (fun K hK => ?_)
  go_simp
  refine hle1.mono ?_; rintro e w6 ⟨rfl, hq⟩; have hq2 := hq.symm; subst hq2; clear hq
  try go_wp2_with fail
  refine hK.out _ _ ?_ (fun hHeld => ?_)
  · rfl
  clear hK K
  try simp only [Act.put, List.setIfInBounds_toArray, List.set_cons_zero, List.set_cons_succ]
  refine take_on (i := 5) (v := ?_) rfl rfl (by kernel_rfl) (by kernel_rfl) (by kernel_rfl) (fun _ _ _ h => h) rfl ?_ hHeld ?_
  rotate_left
  · (intro wq hSq; have q0 := (World.cell?_of_block (w := W) (a := ⟨w.heap.size, 0, none⟩) hSq).trans c0; have q1 := (World.cell?_of_block (w := W) (a := ⟨w.heap.size, 1, none⟩) hSq).trans c1; go_simp <;> first | with_reducible rfl | rfl)
  simp only [Act.put, List.setIfInBounds_toArray, List.set_cons_zero, List.set_cons_succ]
  refine take_on (i := 7) (v := ?_) rfl rfl (by kernel_rfl) (by kernel_rfl) (by kernel_rfl) (fun _ _ _ h => h) rfl ?_ hHeld ?_
  rotate_left
  · (intro wq hSq; have q0 := (World.cell?_of_block (w := W) (a := ⟨w.heap.size, 0, none⟩) hSq).trans c0; have q1 := (World.cell?_of_block (w := W) (a := ⟨w.heap.size, 1, none⟩) hSq).trans c1; go_simp <;> first | with_reducible rfl | rfl)
  simp only [Act.put, List.setIfInBounds_toArray, List.set_cons_zero, List.set_cons_succ]
  refine take_one (i := 8) rfl (by kernel_rfl) (fun K hK => ?_)
  go_simp
  skip
  try go_wp2_with fail
  refine hK.out _ _ ?_ (fun hHeld => ?_)
  · exact (Below.heap_setCell _ _ _ _ (by simp; omega)).trans ((Below.heap_setCell _ _ _ _ (by simp; omega)).trans hHeld)
  clear hK K
  try simp only [Act.put, List.setIfInBounds_toArray, List.set_cons_zero, List.set_cons_succ]
  refine wpAnyH_done (by kernel_rfl) ?_ _
  go_wp2
  refine bodyPost_ret (v := .tuple #[.bool true, .agg #[.int .i64 0, .slice none 0 0]]) (by simp [results, Try.results15, go_sem, e0, e1]) rfl ?_
  exact (didN_same hsz HP.out.below (Below.refl _ _)).drew

set_option maxRecDepth 100000 in
set_option maxHeartbeats 2000000 in
theorem none_clear (s : ByteArray) (w : World) :
    Calls Try.prog 15 #[.pointer none, .agg #[.int .i64 0, .slice none 0 0], .agg #[.int .i64 5, .string s]] w fun e w' => DidN w w' e := by
  have hpre := pre_made w 0 (.slice none 0 0) 5 s
  obtain ⟨W, hW⟩ : ∃ W, W = (((w.alloc (.cells #[.int .i64 0, .slice none 0 0] 24)).alloc (.cells #[.int .i64 5, .string s] 38)).alloc (.cells #[.int .i64 0, .slice none 0 0] 24)) := ⟨_, rfl⟩
  rw [Int.natCast_zero, ← hW] at hpre
  have c0 := cell_of_row _ _ 0 _ _ _ hpre.want
  have c1 := cell_of_row _ _ 1 _ _ _ hpre.want
  have c2 := cell_of_row _ _ 0 _ _ _ hpre.step
  have c3 := cell_of_row _ _ 1 _ _ _ hpre.step
  simp only [List.getElem?_toArray, List.getElem?_cons_zero, List.getElem?_cons_succ, Int.natCast_zero] at c0 c1 c2 c3
  have hcl := clearS_none W
  have hrc := rclear_any 0 (.slice none 0 0) none 0 0 rfl W
  have hsz := hpre.size
  have HP := hide_it hpre
  clear hpre
  go_enter Try.func15, Try.ntmps15
  go_wp2_with fail
  rw [← hW]
  clear hW
  refine hcl.mono ?_
  rintro e w5 ⟨rfl, hq⟩
  have hq2 := hq.symm
  subst hq2
  clear hq hcl
  go_wp2_with fail
  refine hrc.mono ?_
  rintro e w6 ⟨rfl, hb6⟩
  have hres := (hb6.block (w.heap.size + 1 + 1) (by omega)).trans HP.out.res
  have e0 := cell_of_row _ _ 0 _ _ _ hres
  have e1 := cell_of_row _ _ 1 _ _ _ hres
  have f0 := frozen_of_row _ _ 0 _ _ hres
  have f1 := frozen_of_row _ _ 1 _ _ hres
  simp only [List.getElem?_toArray, List.getElem?_cons_zero, List.getElem?_cons_succ] at e0 e1
  clear hres
  have HB6 := hide_it hb6
  clear hrc hb6 c0 c1 c2 c3
  go_wp2
  refine bodyPost_ret (v := .tuple #[.bool true, .agg #[.int .i64 0, .slice none 0 0]]) (by simp [results, Try.results15, go_sem, e0, e1]) rfl ?_
  exact didN_same hsz HP.out.below HB6.out

set_option maxRecDepth 100000 in
set_option maxHeartbeats 2000000 in
theorem none_first (s : ByteArray) (w : World) :
    Calls Try.prog 15 #[.pointer none, .agg #[.int .i64 0, .slice none 0 0], .agg #[.int .i64 2, .string s]] w fun e w' => DidN w w' e := by
  have hpre := pre_made w 0 (.slice none 0 0) 2 s
  obtain ⟨W, hW⟩ : ∃ W, W = (((w.alloc (.cells #[.int .i64 0, .slice none 0 0] 24)).alloc (.cells #[.int .i64 2, .string s] 38)).alloc (.cells #[.int .i64 0, .slice none 0 0] 24)) := ⟨_, rfl⟩
  rw [Int.natCast_zero, ← hW] at hpre
  have c0 := cell_of_row _ _ 0 _ _ _ hpre.want
  have c1 := cell_of_row _ _ 1 _ _ _ hpre.want
  have c2 := cell_of_row _ _ 0 _ _ _ hpre.step
  have c3 := cell_of_row _ _ 1 _ _ _ hpre.step
  simp only [List.getElem?_toArray, List.getElem?_cons_zero, List.getElem?_cons_succ, Int.natCast_zero] at c0 c1 c2 c3
  have hrf := rfirst_nil 0 none 0 W
  have hsz := hpre.size
  have HP := hide_it hpre
  clear hpre
  go_enter Try.func15, Try.ntmps15
  go_wp2_with fail
  rw [← hW]
  clear hW
  refine hrf.mono ?_
  rintro e w4 ⟨rfl, hb4⟩
  have hqf4 := firstS_none w4
  have k0 := (hb4.cell (p := ⟨w.heap.size, 0, none⟩) (by simp; omega)).trans c0
  have k1 := (hb4.cell (p := ⟨w.heap.size, 1, none⟩) (by simp; omega)).trans c1
  have hres := (hb4.block (w.heap.size + 1 + 1) (by omega)).trans HP.out.res
  have e0 := cell_of_row _ _ 0 _ _ _ hres
  have e1 := cell_of_row _ _ 1 _ _ _ hres
  have f0 := frozen_of_row _ _ 0 _ _ hres
  have f1 := frozen_of_row _ _ 1 _ _ hres
  simp only [List.getElem?_toArray, List.getElem?_cons_zero, List.getElem?_cons_succ] at e0 e1
  clear hres
  have HB4 := hide_it hb4
  clear hrf hb4 c0 c1 c2 c3
  go_wp2_with fail
  refine hqf4.mono ?_
  rintro e w5 ⟨rfl, hq⟩
  have hq2 := hq.symm
  subst hq2
  clear hq hqf4
  go_wp2
  go_region
  all_goals go_wp2
  all_goals (refine bodyPost_ret (v := .tuple #[.bool true, .agg #[.int .i64 0, .slice none 0 0]]) (by simp [results, Try.results15, go_sem, e0, e1]) rfl ?_)
  all_goals exact (didN_same hsz HP.out.below HB4.out).drew

set_option maxRecDepth 100000 in
set_option maxHeartbeats 2000000 in
theorem none_pop (s : ByteArray) (w : World) :
    Calls Try.prog 15 #[.pointer none, .agg #[.int .i64 0, .slice none 0 0], .agg #[.int .i64 1, .string s]] w fun e w' => DidN w w' e := by
  have hpre := pre_made w 0 (.slice none 0 0) 1 s
  obtain ⟨W, hW⟩ : ∃ W, W = (((w.alloc (.cells #[.int .i64 0, .slice none 0 0] 24)).alloc (.cells #[.int .i64 1, .string s] 38)).alloc (.cells #[.int .i64 0, .slice none 0 0] 24)) := ⟨_, rfl⟩
  rw [Int.natCast_zero, ← hW] at hpre
  have c0 := cell_of_row _ _ 0 _ _ _ hpre.want
  have c1 := cell_of_row _ _ 1 _ _ _ hpre.want
  have c2 := cell_of_row _ _ 0 _ _ _ hpre.step
  have c3 := cell_of_row _ _ 1 _ _ _ hpre.step
  simp only [List.getElem?_toArray, List.getElem?_cons_zero, List.getElem?_cons_succ, Int.natCast_zero] at c0 c1 c2 c3
  have hrf := rpop_nil 0 none 0 W
  have hsz := hpre.size
  have HP := hide_it hpre
  clear hpre
  go_enter Try.func15, Try.ntmps15
  go_wp2_with fail
  rw [← hW]
  clear hW
  refine hrf.mono ?_
  rintro e w4 ⟨rfl, hb4⟩
  have HB4 := hide_it hb4
  have hs4 := hb4.size
  clear hb4 hrf c0 c1 c2 c3
  go_wp2_with fail
  obtain ⟨W5, hW5⟩ : ∃ W5, W5 = w4.alloc (.cells #[.int .i64 0, .slice none 0 0] 24) := ⟨_, rfl⟩
  have hB5 : Below W.heap.size W W5 := by rw [hW5]; exact HB4.out.alloc hs4 _
  have hn5 : W5.heap[w4.heap.size]? = some (.cells #[.int .i64 0, .slice none 0 0] 24 (0, 0)) := by rw [hW5]; exact heap_alloc_new _ _
  rw [← hW5]
  obtain ⟨t8, ht8⟩ : ∃ t8, t8 = w4.heap.size := ⟨_, rfl⟩
  rw [← ht8] at hn5 hs4 ⊢
  have hqf5 := popS_none W5
  have hres := (hB5.block (w.heap.size + 1 + 1) (by omega)).trans HP.out.res
  have e0 := cell_of_row _ _ 0 _ _ _ hres
  have e1 := cell_of_row _ _ 1 _ _ _ hres
  have f0 := frozen_of_row _ _ 0 _ _ hres
  have f1 := frozen_of_row _ _ 1 _ _ hres
  simp only [List.getElem?_toArray, List.getElem?_cons_zero, List.getElem?_cons_succ] at e0 e1
  clear hres
  have d6 := cell_of_row _ _ 0 _ _ _ hn5
  have d7 := cell_of_row _ _ 1 _ _ _ hn5
  simp only [List.getElem?_toArray, List.getElem?_cons_zero, List.getElem?_cons_succ] at d6 d7
  have HB5 := hide_it hB5
  have htn : ¬ t8 = w.heap.size + 1 + 1 := by omega
  clear hW5 hn5 hB5 ht8
  refine hqf5.mono ?_
  rintro e w6 ⟨rfl, hq⟩
  have hq2 := hq.symm
  subst hq2
  clear hq hqf5
  go_wp2
  go_region
  all_goals go_wp2
  all_goals (refine bodyPost_ret (v := .tuple #[.bool true, .agg #[.int .i64 0, .slice none 0 0]]) (by simp [results, Try.results15, go_sem, e0, e1]) rfl ?_)
  all_goals exact (didN_same hsz HP.out.below HB5.out).drew

set_option maxRecDepth 100000 in
set_option maxHeartbeats 2000000 in
theorem none_all (s : ByteArray) (w : World) :
    Calls Try.prog 15 #[.pointer none, .agg #[.int .i64 0, .slice none 0 0], .agg #[.int .i64 4, .string s]] w fun e w' => DidN w w' e := by
  have hpre := pre_made w 0 (.slice none 0 0) 4 s
  obtain ⟨W, hW⟩ : ∃ W, W = (((w.alloc (.cells #[.int .i64 0, .slice none 0 0] 24)).alloc (.cells #[.int .i64 4, .string s] 38)).alloc (.cells #[.int .i64 0, .slice none 0 0] 24)) := ⟨_, rfl⟩
  rw [Int.natCast_zero, ← hW] at hpre
  have c0 := cell_of_row _ _ 0 _ _ _ hpre.want
  have c1 := cell_of_row _ _ 1 _ _ _ hpre.want
  have c2 := cell_of_row _ _ 0 _ _ _ hpre.step
  have c3 := cell_of_row _ _ 1 _ _ _ hpre.step
  simp only [List.getElem?_toArray, List.getElem?_cons_zero, List.getElem?_cons_succ, Int.natCast_zero] at c0 c1 c2 c3
  have hwa := walkedS_any none 0 0 [] W (.inl ⟨rfl, rfl⟩)
  have hsz := hpre.size
  have HP := hide_it hpre
  clear hpre
  go_enter Try.func15, Try.ntmps15
  go_wp2_with fail
  rw [← hW]
  clear hW
  refine hwa.mono ?_
  rintro e w5 ⟨v5, rfl, how5, hb5⟩
  obtain ⟨a5, c5, hv5, hr5, _, _⟩ := how5.row
  rw [List.length_nil] at hv5
  subst hv5
  have k0 := (hb5.cell (p := ⟨w.heap.size, 0, none⟩) (by simp; omega)).trans c0
  have k1 := (hb5.cell (p := ⟨w.heap.size, 1, none⟩) (by simp; omega)).trans c1
  have heq : Calls Try.prog 17 #[.slice a5 0 c5, .slice none 0 0] (w5.drewN 1) fun e w' => e = .returned (.bool true) ∧ Below w5.heap.size w5 w' :=
    (equalS_any a5 none c5 0 [] [] (w5.drewN 1) (.inl rfl) (.inl rfl) (by simp)).mono fun e w' ⟨h1, h2⟩ => ⟨by rw [h1]; simp, (below_drewN (Below.refl _ _) 1).trans h2⟩
  have hs5 := hb5.size
  have HB5 := hide_it hb5
  have HR5 := hide_it ((hb5.block (w.heap.size + 1 + 1) (by omega)).trans HP.out.res)
  clear hwa hb5 hr5 how5 c0 c1 c2 c3
  go_wp2_with fail
  refine wp_region_held_drew (S := (fun w' => w'.heap[w.heap.size]? = w5.heap[w.heap.size]?)) (by kernel_rfl) ?_ (fun hHeld => ?_)
  · rfl
  refine take_on (i := 0) (v := ?_) rfl rfl (by kernel_rfl) (by kernel_rfl) (by kernel_rfl) (fun _ _ _ h => h) rfl ?_ hHeld ?_
  rotate_left
  · (intro wq hSq; have q0 := (World.cell?_of_block (w := w5) (a := ⟨w.heap.size, 0, none⟩) hSq).trans k0; have q1 := (World.cell?_of_block (w := w5) (a := ⟨w.heap.size, 1, none⟩) hSq).trans k1; go_simp <;> first | with_reducible rfl | rfl)
  simp only [Act.put, List.setIfInBounds_toArray, List.set_cons_zero, List.set_cons_succ]
  refine take_on (i := 1) (v := ?_) rfl rfl (by kernel_rfl) (by kernel_rfl) (by kernel_rfl) (fun _ _ _ h => h) rfl ?_ hHeld ?_
  rotate_left
  · (intro wq hSq; have q0 := (World.cell?_of_block (w := w5) (a := ⟨w.heap.size, 0, none⟩) hSq).trans k0; have q1 := (World.cell?_of_block (w := w5) (a := ⟨w.heap.size, 1, none⟩) hSq).trans k1; go_simp <;> first | with_reducible rfl | rfl)
  simp only [Act.put, List.setIfInBounds_toArray, List.set_cons_zero, List.set_cons_succ]
  refine take_on (i := 2) (v := ?_) rfl rfl (by kernel_rfl) (by kernel_rfl) (by kernel_rfl) (fun _ _ _ h => h) rfl ?_ hHeld ?_
  rotate_left
  · (intro wq hSq; have q0 := (World.cell?_of_block (w := w5) (a := ⟨w.heap.size, 0, none⟩) hSq).trans k0; have q1 := (World.cell?_of_block (w := w5) (a := ⟨w.heap.size, 1, none⟩) hSq).trans k1; go_simp <;> first | with_reducible rfl | rfl)
  simp only [Act.put, List.setIfInBounds_toArray, List.set_cons_zero, List.set_cons_succ]
  refine take_on (i := 3) (v := ?_) rfl rfl (by kernel_rfl) (by kernel_rfl) (by kernel_rfl) (fun _ _ _ h => h) rfl ?_ hHeld ?_
  rotate_left
  · (intro wq hSq; have q0 := (World.cell?_of_block (w := w5) (a := ⟨w.heap.size, 0, none⟩) hSq).trans k0; have q1 := (World.cell?_of_block (w := w5) (a := ⟨w.heap.size, 1, none⟩) hSq).trans k1; go_simp <;> first | with_reducible rfl | rfl)
  simp only [Act.put, List.setIfInBounds_toArray, List.set_cons_zero, List.set_cons_succ]
  refine take_on (i := 4) (v := ?_) rfl rfl (by kernel_rfl) (by kernel_rfl) (by kernel_rfl) (fun _ _ _ h => h) rfl ?_ hHeld ?_
  rotate_left
  · (intro wq hSq; have q0 := (World.cell?_of_block (w := w5) (a := ⟨w.heap.size, 0, none⟩) hSq).trans k0; have q1 := (World.cell?_of_block (w := w5) (a := ⟨w.heap.size, 1, none⟩) hSq).trans k1; go_simp <;> first | with_reducible rfl | rfl)
  simp only [Act.put, List.setIfInBounds_toArray, List.set_cons_zero, List.set_cons_succ]
  refine take_on (i := 7) (v := ?_) rfl rfl (by kernel_rfl) (by kernel_rfl) (by kernel_rfl) (fun _ _ _ h => h) rfl ?_ hHeld ?_
  rotate_left
  · (intro wq hSq; have q0 := (World.cell?_of_block (w := w5) (a := ⟨w.heap.size, 0, none⟩) hSq).trans k0; have q1 := (World.cell?_of_block (w := w5) (a := ⟨w.heap.size, 1, none⟩) hSq).trans k1; go_simp <;> first | with_reducible rfl | rfl)
  simp only [Act.put, List.setIfInBounds_toArray, List.set_cons_zero, List.set_cons_succ]
  refine take_one (i := 5) rfl (by kernel_rfl) (fun K hK => ?_)
  go_simp
  refine heq.mono ?_; rintro e w6 ⟨rfl, hb6⟩; have hres := (hb6.block (w.heap.size + 1 + 1) (by omega)).trans HR5.out; have e0 := cell_of_row _ _ 0 _ _ _ hres; have e1 := cell_of_row _ _ 1 _ _ _ hres; have f0 := frozen_of_row _ _ 0 _ _ hres; have f1 := frozen_of_row _ _ 1 _ _ hres; simp only [List.getElem?_toArray, List.getElem?_cons_zero, List.getElem?_cons_succ] at e0 e1; clear hres; have HB6 := hide_it hb6; clear hb6
  try go_wp2_with fail
  refine hK.out _ _ ?_ (fun hHeld => ?_)
  · exact HB6.out.block _ (by omega)
  clear hK K
  try simp only [Act.put, List.setIfInBounds_toArray, List.set_cons_zero, List.set_cons_succ]
  refine take_on (i := 6) (v := ?_) rfl rfl (by kernel_rfl) (by kernel_rfl) (by kernel_rfl) (fun _ _ _ h => h) rfl ?_ hHeld ?_
  rotate_left
  · (intro wq hSq; have q0 := (World.cell?_of_block (w := w5) (a := ⟨w.heap.size, 0, none⟩) hSq).trans k0; have q1 := (World.cell?_of_block (w := w5) (a := ⟨w.heap.size, 1, none⟩) hSq).trans k1; go_simp <;> first | with_reducible rfl | rfl)
  simp only [Act.put, List.setIfInBounds_toArray, List.set_cons_zero, List.set_cons_succ]
  refine take_on (i := 8) (v := ?_) rfl rfl (by kernel_rfl) (by kernel_rfl) (by kernel_rfl) (fun _ _ _ h => h) rfl ?_ hHeld ?_
  rotate_left
  · (intro wq hSq; have q0 := (World.cell?_of_block (w := w5) (a := ⟨w.heap.size, 0, none⟩) hSq).trans k0; have q1 := (World.cell?_of_block (w := w5) (a := ⟨w.heap.size, 1, none⟩) hSq).trans k1; go_simp <;> first | with_reducible rfl | rfl)
  simp only [Act.put, List.setIfInBounds_toArray, List.set_cons_zero, List.set_cons_succ]
  refine take_one (i := 9) rfl (by kernel_rfl) (fun K hK => ?_)
  go_simp
  skip
  try go_wp2_with fail
  refine hK.out _ _ ?_ (fun hHeld => ?_)
  · exact (Below.heap_setCell _ _ _ _ (by simp; omega)).trans ((Below.heap_setCell _ _ _ _ (by simp; omega)).trans hHeld)
  clear hK K
  try simp only [Act.put, List.setIfInBounds_toArray, List.set_cons_zero, List.set_cons_succ]
  refine wpAnyH_done (by kernel_rfl) ?_ _
  go_wp2
  refine bodyPost_ret (v := .tuple #[.bool true, .agg #[.int .i64 0, .slice none 0 0]]) (by simp [results, Try.results15, go_sem, e0, e1]) rfl ?_
  exact didN_same hsz HP.out.below (HB5.out.trans (HB6.out.mono HB5.out.size))

theorem none_any (k : Int) (s : ByteArray) (w : World) (h0 : ¬ k = 0) :
    Calls Try.prog 15 #[.pointer none, .agg #[.int .i64 0, .slice none 0 0], .agg #[.int .i64 k, .string s]] w fun e w' => DidN w w' e := by
  by_cases h1 : k = 1
  · subst h1; exact none_pop s w
  by_cases h2 : k = 2
  · subst h2; exact none_first s w
  by_cases h3 : k = 3
  · subst h3; exact none_len s w
  by_cases h4 : k = 4
  · subst h4; exact none_all s w
  by_cases h5 : k = 5
  · subst h5; exact none_clear s w
  exact none_else k s w h0 h1 h2 h3 h4 h5

end Go.Proofs.Ytomfhbngpikjeaa
