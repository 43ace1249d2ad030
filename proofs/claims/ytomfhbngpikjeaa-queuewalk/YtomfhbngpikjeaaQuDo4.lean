/- One call of both queues: Push onto a full queue, Pop. -/
import Derived.Test.YtomfhbngpikjeaaQuDo3
namespace Go.Proofs.Ytomfhbngpikjeaa
open Go.RowKit

set_option maxRecDepth 100000 in
set_option maxHeartbeats 2000000 in
theorem does_full (b g base : Nat) (v : Value) (xs : List ByteArray) (s : ByteArray) (w : World) (most : Nat) (hm : most = xs.length) (h : Both w b g most base v xs) :
    Calls Try.prog 15 #[.pointer (some ⟨b, 0, none⟩), .agg #[.int .i64 (most : Int), v], .agg #[.int .i64 0, .string s]] w fun e w' => Did w w' b g most base v xs e := by
  have hlen := h.qu.len
  obtain ⟨a, cap, rfl, hr, hcap, hnil⟩ := h.shape
  have hpre := pre_made w most (.slice a xs.length cap) 0 s
  obtain ⟨W, hW⟩ : ∃ W, W = (((w.alloc (.cells #[.int .i64 (most : Int), .slice a xs.length cap] 24)).alloc (.cells #[.int .i64 0, .string s] 38)).alloc (.cells #[.int .i64 0, .slice none 0 0] 24)) := ⟨_, rfl⟩
  rw [← hW] at hpre
  have hBW := h.below hpre.below
  have hrW := hr.below hpre.below
  have c0 := cell_of_row _ _ 0 _ _ _ hpre.want
  have c1 := cell_of_row _ _ 1 _ _ _ hpre.want
  have c2 := cell_of_row _ _ 0 _ _ _ hpre.step
  have c3 := cell_of_row _ _ 1 _ _ _ hpre.step
  simp only [List.getElem?_toArray, List.getElem?_cons_zero, List.getElem?_cons_succ] at c0 c1 c2 c3
  have hrp : Calls Try.prog 12 #[.agg #[.int .i64 (most : Int), .slice a xs.length cap], .string s] W fun e w' => e = .returned (.tuple #[.agg #[.int .i64 (most : Int), .slice a xs.length cap], .int .i64 50]) ∧ Below W.heap.size W w' := by
    rw [← hm]; exact rpush_full most a cap s W
  have HM := hide_it hm
  have hsz := hpre.size
  have H := hide_it h
  have HP := hide_it hpre
  have HBW := hide_it hBW
  clear h hpre hBW hr hrW hnil
  clear hm
  go_enter Try.func15, Try.ntmps15
  go_wp2_with fail
  rw [← hW]
  clear hW
  refine hrp.mono ?_
  rintro e w4 ⟨rfl, hb4⟩
  have HB4 := hide_it hb4
  have hs4 := hb4.size
  clear hb4 hrp c0 c1 c2 c3
  go_wp2_with fail
  obtain ⟨W5, hW5⟩ : ∃ W5, W5 = w4.alloc (.cells #[.int .i64 (most : Int), .slice a xs.length cap] 24) := ⟨_, rfl⟩
  have hB5 : Below W.heap.size W W5 := by rw [hW5]; exact HB4.out.alloc hs4 _
  have hn5 : W5.heap[w4.heap.size]? = some (.cells #[.int .i64 (most : Int), .slice a xs.length cap] 24 (0, 0)) := by rw [hW5]; exact heap_alloc_new _ _
  have hz5 : W5.heap.size = w4.heap.size + 1 := by rw [hW5]; simp
  rw [← hW5]
  obtain ⟨t8, ht8⟩ : ∃ t8, t8 = w4.heap.size := ⟨_, rfl⟩
  rw [← ht8] at hn5 hz5 hs4 ⊢
  have hp5 := (hB5.block (w.heap.size + 1) (by omega)).trans HP.out.step
  have hr5 := (hB5.block (w.heap.size + 1 + 1) (by omega)).trans HP.out.res
  have hpu1 := pushS_full b g most xs s (W5.drewN 1) ((HBW.out.qu.below hB5).keep (by simp) (by simp)) HM.out.symm
  have d3 := cell_of_row _ _ 1 _ _ _ hp5
  have d6 := cell_of_row _ _ 0 _ _ _ hn5
  have d7 := cell_of_row _ _ 1 _ _ _ hn5
  simp only [List.getElem?_toArray, List.getElem?_cons_zero, List.getElem?_cons_succ] at d3 d6 d7
  have HR5 := hide_it hr5
  have HB5 := hide_it hB5
  clear hW5 hp5 hr5 hn5 hB5 ht8
  refine wp_region_held_drew (S := (fun w' => w'.heap[w.heap.size + 1]? = W5.heap[w.heap.size + 1]? ∧ w'.heap[t8]? = W5.heap[t8]?)) (by kernel_rfl) ?_ (fun hHeld => ?_)
  · exact ⟨rfl, rfl⟩
  refine take_on (i := 0) (v := ?_) rfl rfl (by kernel_rfl) (by kernel_rfl) (by kernel_rfl) (fun _ _ _ h => h) rfl ?_ hHeld ?_
  rotate_left
  · (intro wq hSq; have q3 := (World.cell?_of_block (w := W5) (a := ⟨w.heap.size + 1, 1, none⟩) hSq.1).trans d3; have q6 := (World.cell?_of_block (w := W5) (a := ⟨t8, 0, none⟩) hSq.2).trans d6; have q7 := (World.cell?_of_block (w := W5) (a := ⟨t8, 1, none⟩) hSq.2).trans d7; go_simp <;> first | with_reducible rfl | rfl)
  simp only [Act.put, List.setIfInBounds_toArray, List.set_cons_zero, List.set_cons_succ]
  refine take_on (i := 1) (v := ?_) rfl rfl (by kernel_rfl) (by kernel_rfl) (by kernel_rfl) (fun _ _ _ h => h) rfl ?_ hHeld ?_
  rotate_left
  · (intro wq hSq; have q3 := (World.cell?_of_block (w := W5) (a := ⟨w.heap.size + 1, 1, none⟩) hSq.1).trans d3; have q6 := (World.cell?_of_block (w := W5) (a := ⟨t8, 0, none⟩) hSq.2).trans d6; have q7 := (World.cell?_of_block (w := W5) (a := ⟨t8, 1, none⟩) hSq.2).trans d7; go_simp <;> first | with_reducible rfl | rfl)
  simp only [Act.put, List.setIfInBounds_toArray, List.set_cons_zero, List.set_cons_succ]
  refine take_on (i := 2) (v := ?_) rfl rfl (by kernel_rfl) (by kernel_rfl) (by kernel_rfl) (fun _ _ _ h => h) rfl ?_ hHeld ?_
  rotate_left
  · (intro wq hSq; have q3 := (World.cell?_of_block (w := W5) (a := ⟨w.heap.size + 1, 1, none⟩) hSq.1).trans d3; have q6 := (World.cell?_of_block (w := W5) (a := ⟨t8, 0, none⟩) hSq.2).trans d6; have q7 := (World.cell?_of_block (w := W5) (a := ⟨t8, 1, none⟩) hSq.2).trans d7; go_simp <;> first | with_reducible rfl | rfl)
  simp only [Act.put, List.setIfInBounds_toArray, List.set_cons_zero, List.set_cons_succ]
  refine take_on (i := 4) (v := ?_) rfl rfl (by kernel_rfl) (by kernel_rfl) (by kernel_rfl) (fun _ _ _ h => h) rfl ?_ hHeld ?_
  rotate_left
  · (intro wq hSq; have q3 := (World.cell?_of_block (w := W5) (a := ⟨w.heap.size + 1, 1, none⟩) hSq.1).trans d3; have q6 := (World.cell?_of_block (w := W5) (a := ⟨t8, 0, none⟩) hSq.2).trans d6; have q7 := (World.cell?_of_block (w := W5) (a := ⟨t8, 1, none⟩) hSq.2).trans d7; go_simp <;> first | with_reducible rfl | rfl)
  simp only [Act.put, List.setIfInBounds_toArray, List.set_cons_zero, List.set_cons_succ]
  refine take_on (i := 6) (v := ?_) rfl rfl (by kernel_rfl) (by kernel_rfl) (by kernel_rfl) (fun _ _ _ h => h) rfl ?_ hHeld ?_
  rotate_left
  · (intro wq hSq; have q3 := (World.cell?_of_block (w := W5) (a := ⟨w.heap.size + 1, 1, none⟩) hSq.1).trans d3; have q6 := (World.cell?_of_block (w := W5) (a := ⟨t8, 0, none⟩) hSq.2).trans d6; have q7 := (World.cell?_of_block (w := W5) (a := ⟨t8, 1, none⟩) hSq.2).trans d7; go_simp <;> first | with_reducible rfl | rfl)
  simp only [Act.put, List.setIfInBounds_toArray, List.set_cons_zero, List.set_cons_succ]
  refine take_one (i := 3) rfl (by kernel_rfl) (fun K hK => ?_)
  go_simp
  refine hpu1.mono ?_; rintro e w6 ⟨rfl, hb6⟩; have hr6 := (hb6.block (w.heap.size + 1 + 1) (by simp; omega)).trans HR5.out; have e0 := cell_of_row _ _ 0 _ _ _ hr6; have e1 := cell_of_row _ _ 1 _ _ _ hr6; have f0 := frozen_of_row _ _ 0 _ _ hr6; have f1 := frozen_of_row _ _ 1 _ _ hr6; simp only [List.getElem?_toArray, List.getElem?_cons_zero, List.getElem?_cons_succ] at e0 e1; have HB6 := hide_it hb6; clear hr6 hb6
  try go_wp2_with fail
  refine hK.out _ _ ?_ (fun hHeld => ?_)
  · exact ⟨HB6.out.block _ (by simp; omega), HB6.out.block _ (by simp; omega)⟩
  clear hK K
  try simp only [Act.put, List.setIfInBounds_toArray, List.set_cons_zero, List.set_cons_succ]
  refine take_on (i := 5) (v := ?_) rfl rfl (by kernel_rfl) (by kernel_rfl) (by kernel_rfl) (fun _ _ _ h => h) rfl ?_ hHeld ?_
  rotate_left
  · (intro wq hSq; have q3 := (World.cell?_of_block (w := W5) (a := ⟨w.heap.size + 1, 1, none⟩) hSq.1).trans d3; have q6 := (World.cell?_of_block (w := W5) (a := ⟨t8, 0, none⟩) hSq.2).trans d6; have q7 := (World.cell?_of_block (w := W5) (a := ⟨t8, 1, none⟩) hSq.2).trans d7; go_simp <;> first | with_reducible rfl | rfl)
  simp only [Act.put, List.setIfInBounds_toArray, List.set_cons_zero, List.set_cons_succ]
  refine take_on (i := 7) (v := ?_) rfl rfl (by kernel_rfl) (by kernel_rfl) (by kernel_rfl) (fun _ _ _ h => h) rfl ?_ hHeld ?_
  rotate_left
  · (intro wq hSq; have q3 := (World.cell?_of_block (w := W5) (a := ⟨w.heap.size + 1, 1, none⟩) hSq.1).trans d3; have q6 := (World.cell?_of_block (w := W5) (a := ⟨t8, 0, none⟩) hSq.2).trans d6; have q7 := (World.cell?_of_block (w := W5) (a := ⟨t8, 1, none⟩) hSq.2).trans d7; go_simp <;> first | with_reducible rfl | rfl)
  simp only [Act.put, List.setIfInBounds_toArray, List.set_cons_zero, List.set_cons_succ]
  refine take_one (i := 8) rfl (by kernel_rfl) (fun K hK => ?_)
  go_simp
  skip
  try go_wp2_with fail
  refine hK.out _ _ ?_ (fun hHeld => ?_)
  · exact ⟨(Below.heap_setCell _ _ _ _ (by simp)).trans ((Below.heap_setCell _ _ _ _ (by simp)).trans hHeld.1), (Below.heap_setCell _ _ _ _ (by simp; omega)).trans ((Below.heap_setCell _ _ _ _ (by simp; omega)).trans hHeld.2)⟩
  clear hK K
  try simp only [Act.put, List.setIfInBounds_toArray, List.set_cons_zero, List.set_cons_succ]
  refine wpAnyH_done (by kernel_rfl) ?_ _
  go_wp2
  refine bodyPost_ret (v := .tuple #[.bool true, .agg #[.int .i64 (most : Int), .slice a xs.length cap]]) (by simp [results, Try.results15, go_sem, e0, e1]) rfl ?_
  have z := below_drewN HB5.out 1
  exact did_same H.out hsz HP.out.below (z.trans (HB6.out.mono z.size))

set_option maxRecDepth 100000 in
set_option maxHeartbeats 2000000 in
theorem does_pop_nil (b g most base : Nat) (v : Value) (xs : List ByteArray) (s : ByteArray) (w : World) (h : Both w b g most base v xs) (_hbase : base ≤ w.heap.size) (hx : xs = []) :
    Calls Try.prog 15 #[.pointer (some ⟨b, 0, none⟩), .agg #[.int .i64 (most : Int), v], .agg #[.int .i64 1, .string s]] w fun e w' => Did w w' b g most base v xs e := by
  have hlen := h.qu.len
  obtain ⟨a, cap, rfl, hr, hcap, hnil⟩ := h.shape
  have hpre := pre_made w most (.slice a xs.length cap) 1 s
  obtain ⟨W, hW⟩ : ∃ W, W = (((w.alloc (.cells #[.int .i64 (most : Int), .slice a xs.length cap] 24)).alloc (.cells #[.int .i64 1, .string s] 38)).alloc (.cells #[.int .i64 0, .slice none 0 0] 24)) := ⟨_, rfl⟩
  rw [← hW] at hpre
  have hBW := h.below hpre.below
  have hrW := hr.below hpre.below
  have c0 := cell_of_row _ _ 0 _ _ _ hpre.want
  have c1 := cell_of_row _ _ 1 _ _ _ hpre.want
  have c2 := cell_of_row _ _ 0 _ _ _ hpre.step
  have c3 := cell_of_row _ _ 1 _ _ _ hpre.step
  simp only [List.getElem?_toArray, List.getElem?_cons_zero, List.getElem?_cons_succ] at c0 c1 c2 c3
  have hrf : Calls Try.prog 27 #[.agg #[.int .i64 (most : Int), .slice a xs.length cap]] W fun e w' => e = .returned (.tuple #[.string { data := #[] }, .bool false, .agg #[.int .i64 (most : Int), .slice a xs.length cap]]) ∧ Below W.heap.size W w' := by
    rw [hx]; exact rpop_nil _ _ _ _
  have hqf : ∀ w', Below W.heap.size W w' → Calls Try.prog 28 #[.pointer (some ⟨b, 0, none⟩)] w' fun e w'' => e = .returned (.tuple #[.string { data := #[] }, .bool false]) ∧ Below w'.heap.size w' w'' := fun w' hb =>
    (popS_nil b g most w' ((hx ▸ hBW.qu : QuS W b g most []).below hb)).mono fun e w'' ⟨h1, h2⟩ => ⟨h1, by rw [h2]; exact Below.refl _ _⟩
  have hsz := hpre.size
  have H := hide_it h
  have HP := hide_it hpre
  have HBW := hide_it hBW
  clear h hpre hBW hr hrW hnil
  clear hx
  go_enter Try.func15, Try.ntmps15
  go_wp2_with fail
  rw [← hW]
  clear hW
  refine hrf.mono ?_
  rintro e w4 ⟨rfl, hb4⟩
  have HB4 := hide_it hb4
  have hs4 := hb4.size
  clear hb4 hrf c0 c1 c2 c3
  go_wp2_with fail
  obtain ⟨W5, hW5⟩ : ∃ W5, W5 = w4.alloc (.cells #[.int .i64 (most : Int), .slice a xs.length cap] 24) := ⟨_, rfl⟩
  have hB5 : Below W.heap.size W W5 := by rw [hW5]; exact HB4.out.alloc hs4 _
  have hn5 : W5.heap[w4.heap.size]? = some (.cells #[.int .i64 (most : Int), .slice a xs.length cap] 24 (0, 0)) := by rw [hW5]; exact heap_alloc_new _ _
  have hz5 : W5.heap.size = w4.heap.size + 1 := by rw [hW5]; simp
  rw [← hW5]
  obtain ⟨t8, ht8⟩ : ∃ t8, t8 = w4.heap.size := ⟨_, rfl⟩
  rw [← ht8] at hn5 hz5 hs4 ⊢
  have hr5 := (hB5.block (w.heap.size + 1 + 1) (by omega)).trans HP.out.res
  have hqf5 := hqf W5 hB5
  have HR5 := hide_it hr5
  have HN5 := hide_it hn5
  have HB5 := hide_it hB5
  clear hW5 hr5 hn5 hB5 ht8 hqf
  refine hqf5.mono ?_
  rintro e w6 ⟨rfl, hb6⟩
  have hn6 := (hb6.block t8 (by omega)).trans HN5.out
  have hres := (hb6.block (w.heap.size + 1 + 1) (by omega)).trans HR5.out
  have e0 := cell_of_row _ _ 0 _ _ _ hres
  have e1 := cell_of_row _ _ 1 _ _ _ hres
  have f0 := frozen_of_row _ _ 0 _ _ hres
  have f1 := frozen_of_row _ _ 1 _ _ hres
  simp only [List.getElem?_toArray, List.getElem?_cons_zero, List.getElem?_cons_succ] at e0 e1
  clear hres
  have HB6 := hide_it hb6
  clear hb6
  have d6 := cell_of_row _ _ 0 _ _ _ hn6
  have d7 := cell_of_row _ _ 1 _ _ _ hn6
  simp only [List.getElem?_toArray, List.getElem?_cons_zero, List.getElem?_cons_succ] at d6 d7
  clear hn6 hqf5
  go_wp2
  go_region
  all_goals go_wp2
  all_goals (refine bodyPost_ret (v := .tuple #[.bool true, .agg #[.int .i64 (most : Int), .slice a xs.length cap]]) (by simp [results, Try.results15, go_sem, e0, e1]) rfl ?_)
  all_goals exact (did_same H.out hsz HP.out.below (HB5.out.trans (HB6.out.mono HB5.out.size))).drew

set_option maxRecDepth 100000 in
set_option maxHeartbeats 2000000 in
theorem does_pop_cons (b g most base : Nat) (v : Value) (x : ByteArray) (r : List ByteArray) (xs : List ByteArray) (s : ByteArray) (w : World) (h : Both w b g most base v xs) (hbase : base ≤ w.heap.size) (hx : xs = (x :: r)) :
    Calls Try.prog 15 #[.pointer (some ⟨b, 0, none⟩), .agg #[.int .i64 (most : Int), v], .agg #[.int .i64 1, .string s]] w fun e w' => Did w w' b g most base v r e := by
  have hlen := h.qu.len
  obtain ⟨a, cap, rfl, hr, hcap, hnil⟩ := h.shape
  have hpre := pre_made w most (.slice a xs.length cap) 1 s
  obtain ⟨W, hW⟩ : ∃ W, W = (((w.alloc (.cells #[.int .i64 (most : Int), .slice a xs.length cap] 24)).alloc (.cells #[.int .i64 1, .string s] 38)).alloc (.cells #[.int .i64 0, .slice none 0 0] 24)) := ⟨_, rfl⟩
  rw [← hW] at hpre
  have hBW := h.below hpre.below
  have hrW := hr.below hpre.below
  have c0 := cell_of_row _ _ 0 _ _ _ hpre.want
  have c1 := cell_of_row _ _ 1 _ _ _ hpre.want
  have c2 := cell_of_row _ _ 0 _ _ _ hpre.step
  have c3 := cell_of_row _ _ 1 _ _ _ hpre.step
  simp only [List.getElem?_toArray, List.getElem?_cons_zero, List.getElem?_cons_succ] at c0 c1 c2 c3
  have hrf : Calls Try.prog 27 #[.agg #[.int .i64 (most : Int), .slice a xs.length cap]] W fun e w' => ∃ v, e = .returned (.tuple #[.string x, .bool true, .agg #[.int .i64 (most : Int), v]]) ∧ OwS w' W.heap.size v r ∧ Below W.heap.size W w' := by
    rw [hx]; exact rpop_cons _ _ _ x r W (hx ▸ hrW) (hx ▸ hcap) (by rw [hx] at hlen; simp at hlen; omega)
  have hqf : ∀ w', Below W.heap.size W w' → Calls Try.prog 28 #[.pointer (some ⟨b, 0, none⟩)] w' fun e w'' => e = .returned (.tuple #[.string x, .bool true]) ∧ QuS w'' b g most r ∧ Only b g w' w'' := fun w' hb =>
    popS_cons b g most x r w' ((hx ▸ hBW.qu : QuS W b g most (x :: r)).below hb)
  have hsz := hpre.size
  have H := hide_it h
  have HP := hide_it hpre
  have HBW := hide_it hBW
  clear h hpre hBW hr hrW hnil
  clear hx
  go_enter Try.func15, Try.ntmps15
  go_wp2_with fail
  rw [← hW]
  clear hW
  refine hrf.mono ?_
  rintro e w4 ⟨v4, rfl, how4, hb4⟩
  obtain ⟨a4, c4, hv4, _⟩ := how4.row
  obtain ⟨N, hN⟩ : ∃ N, N = r.length := ⟨_, rfl⟩
  rw [← hN] at hv4
  subst hv4
  have HO4 := hide_it how4
  clear how4 hN
  have HB4 := hide_it hb4
  have hs4 := hb4.size
  clear hb4 hrf c0 c1 c2 c3
  go_wp2_with fail
  obtain ⟨W5, hW5⟩ : ∃ W5, W5 = w4.alloc (.cells #[.int .i64 (most : Int), .slice a4 N c4] 24) := ⟨_, rfl⟩
  have hB5 : Below W.heap.size W W5 := by rw [hW5]; exact HB4.out.alloc hs4 _
  have hn5 : W5.heap[w4.heap.size]? = some (.cells #[.int .i64 (most : Int), .slice a4 N c4] 24 (0, 0)) := by rw [hW5]; exact heap_alloc_new _ _
  have hz5 : W5.heap.size = w4.heap.size + 1 := by rw [hW5]; simp
  have ho5 : OwS W5 W.heap.size (.slice a4 N c4) r := by rw [hW5]; exact HO4.out.below ((Below.refl _ _).alloc (Nat.le_refl _) _)
  have HO5 := hide_it ho5
  have hbs := H.out.qu.lt
  clear ho5
  rw [← hW5]
  obtain ⟨t8, ht8⟩ : ∃ t8, t8 = w4.heap.size := ⟨_, rfl⟩
  rw [← ht8] at hn5 hz5 hs4 ⊢
  have hr5 := (hB5.block (w.heap.size + 1 + 1) (by omega)).trans HP.out.res
  have hqf5 := hqf W5 hB5
  have HR5 := hide_it hr5
  have HN5 := hide_it hn5
  have HB5 := hide_it hB5
  clear hW5 hr5 hn5 hB5 ht8 hqf
  refine hqf5.mono ?_
  rintro e w6 ⟨rfl, hq6, ho6⟩
  have hn6 := (ho6.block t8 (by omega) (by omega) (by omega)).trans HN5.out
  have hres := (ho6.block (w.heap.size + 1 + 1) (by omega) (by omega) (by omega)).trans HR5.out
  have e0 := cell_of_row _ _ 0 _ _ _ hres
  have e1 := cell_of_row _ _ 1 _ _ _ hres
  have f0 := frozen_of_row _ _ 0 _ _ hres
  have f1 := frozen_of_row _ _ 1 _ _ hres
  simp only [List.getElem?_toArray, List.getElem?_cons_zero, List.getElem?_cons_succ] at e0 e1
  clear hres
  have HQ6 := hide_it hq6
  have HO6 := hide_it ho6
  clear hq6 ho6
  have d6 := cell_of_row _ _ 0 _ _ _ hn6
  have d7 := cell_of_row _ _ 1 _ _ _ hn6
  simp only [List.getElem?_toArray, List.getElem?_cons_zero, List.getElem?_cons_succ] at d6 d7
  clear hn6 hqf5
  go_wp2
  go_region
  all_goals go_wp2
  all_goals (refine bodyPost_ret (v := .tuple #[.bool true, .agg #[.int .i64 (most : Int), .slice a4 N c4]]) (by simp [results, Try.results15, go_sem, e0, e1]) rfl ?_)
  all_goals exact (did_end H.out hbase hsz HP.out.below HB5.out HO5.out HO6.out (.inl rfl) HQ6.out).drew

end Go.Proofs.Ytomfhbngpikjeaa
