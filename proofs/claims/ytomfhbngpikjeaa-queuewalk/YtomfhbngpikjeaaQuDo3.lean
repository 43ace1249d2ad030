/- One call of both queues: the other calls. -/
import Derived.Test.YtomfhbngpikjeaaQuDo2
namespace Go.Proofs.Ytomfhbngpikjeaa
open Go.RowKit

set_option maxRecDepth 100000 in
set_option maxHeartbeats 2000000 in
theorem does_else (b g most base : Nat) (v : Value) (xs : List ByteArray) (k : Int) (s : ByteArray) (w : World) (h : Both w b g most base v xs) (h0 : ¬ k = 0) (h1 : ¬ k = 1) (h2 : ¬ k = 2) (h3 : ¬ k = 3) (h4 : ¬ k = 4) (h5 : ¬ k = 5) :
    Calls Try.prog 15 #[.pointer (some ⟨b, 0, none⟩), .agg #[.int .i64 (most : Int), v], .agg #[.int .i64 k, .string s]] w fun e w' => Did w w' b g most base v xs e := by
  have hlen := h.qu.len
  obtain ⟨a, cap, rfl, hr, hcap, hnil⟩ := h.shape
  have hpre := pre_made w most (.slice a xs.length cap) k s
  obtain ⟨W, hW⟩ : ∃ W, W = (((w.alloc (.cells #[.int .i64 (most : Int), .slice a xs.length cap] 24)).alloc (.cells #[.int .i64 k, .string s] 38)).alloc (.cells #[.int .i64 0, .slice none 0 0] 24)) := ⟨_, rfl⟩
  rw [← hW] at hpre
  have hBW := h.below hpre.below
  have hrW := hr.below hpre.below
  have c0 := cell_of_row _ _ 0 _ _ _ hpre.want
  have c1 := cell_of_row _ _ 1 _ _ _ hpre.want
  have c2 := cell_of_row _ _ 0 _ _ _ hpre.step
  have c3 := cell_of_row _ _ 1 _ _ _ hpre.step
  simp only [List.getElem?_toArray, List.getElem?_cons_zero, List.getElem?_cons_succ] at c0 c1 c2 c3
  have hres := hpre.res
  have e0 := cell_of_row _ _ 0 _ _ _ hres
  have e1 := cell_of_row _ _ 1 _ _ _ hres
  have f0 := frozen_of_row _ _ 0 _ _ hres
  have f1 := frozen_of_row _ _ 1 _ _ hres
  simp only [List.getElem?_toArray, List.getElem?_cons_zero, List.getElem?_cons_succ] at e0 e1
  clear hres
  have hsz := hpre.size
  have H := hide_it h
  have HP := hide_it hpre
  have HBW := hide_it hBW
  clear h hpre hBW hr hrW hnil
  go_enter Try.func15, Try.ntmps15
  go_wp2
  rw [← hW]
  clear hW
  go_region
  all_goals go_wp2
  all_goals (refine bodyPost_ret (v := .tuple #[.bool true, .agg #[.int .i64 (most : Int), .slice a xs.length cap]]) (by simp [results, Try.results15, go_sem, e0, e1]) rfl ?_)
  all_goals exact (did_same H.out hsz HP.out.below (Below.refl _ _)).drew

set_option maxRecDepth 100000 in
set_option maxHeartbeats 2000000 in
theorem does_len (b g most base : Nat) (v : Value) (xs : List ByteArray) (s : ByteArray) (w : World) (h : Both w b g most base v xs) (_hbase : base ≤ w.heap.size) :
    Calls Try.prog 15 #[.pointer (some ⟨b, 0, none⟩), .agg #[.int .i64 (most : Int), v], .agg #[.int .i64 3, .string s]] w fun e w' => Did w w' b g most base v xs e := by
  have hlen := h.qu.len
  obtain ⟨a, cap, rfl, hr, hcap, hnil⟩ := h.shape
  have hpre := pre_made w most (.slice a xs.length cap) 3 s
  obtain ⟨W, hW⟩ : ∃ W, W = (((w.alloc (.cells #[.int .i64 (most : Int), .slice a xs.length cap] 24)).alloc (.cells #[.int .i64 3, .string s] 38)).alloc (.cells #[.int .i64 0, .slice none 0 0] 24)) := ⟨_, rfl⟩
  rw [← hW] at hpre
  have hBW := h.below hpre.below
  have hrW := hr.below hpre.below
  have c0 := cell_of_row _ _ 0 _ _ _ hpre.want
  have c1 := cell_of_row _ _ 1 _ _ _ hpre.want
  have c2 := cell_of_row _ _ 0 _ _ _ hpre.step
  have c3 := cell_of_row _ _ 1 _ _ _ hpre.step
  simp only [List.getElem?_toArray, List.getElem?_cons_zero, List.getElem?_cons_succ] at c0 c1 c2 c3
  have hres := hpre.res
  have e0 := cell_of_row _ _ 0 _ _ _ hres
  have e1 := cell_of_row _ _ 1 _ _ _ hres
  have f0 := frozen_of_row _ _ 0 _ _ hres
  have f1 := frozen_of_row _ _ 1 _ _ hres
  simp only [List.getElem?_toArray, List.getElem?_cons_zero, List.getElem?_cons_succ] at e0 e1
  clear hres
  have hle := fun q => lenS_any b g most xs (W.drewN q) (hBW.qu.keep (by simp) (by simp))
  have hle1 := hle 1
  have hsz := hpre.size
  have H := hide_it h
  have HP := hide_it hpre
  have HBW := hide_it hBW
  clear h hpre hBW hr hrW hnil
  clear hle
  go_enter Try.func15, Try.ntmps15
  go_wp2_with fail
  rw [← hW]
  clear hW
  refine wp_region_held_drew (S := (fun w' => w'.heap[w.heap.size]? = W.heap[w.heap.size]?)) (by kernel_rfl) ?_ (fun hHeld => ?_)
  · rfl
  refine take_on (i := 0) (v := ?_) rfl rfl (by kernel_rfl) (by kernel_rfl) (by kernel_rfl) (fun _ _ _ h => h) rfl ?_ hHeld ?_
  rotate_left
  · (intro wq hSq; have q0 := (World.cell?_of_block (w := W) (a := ⟨w.heap.size, 0, none⟩) hSq).trans c0; have q1 := (World.cell?_of_block (w := W) (a := ⟨w.heap.size, 1, none⟩) hSq).trans c1; go_simp <;> first | with_reducible rfl | rfl)
  simp only [Act.put, List.setIfInBounds_toArray, List.set_cons_zero, List.set_cons_succ]
  refine take_on (i := 2) (v := ?_) rfl rfl (by kernel_rfl) (by kernel_rfl) (by kernel_rfl) (fun _ _ _ h => h) rfl ?_ hHeld ?_
  rotate_left
  · (intro wq hSq; have q0 := (World.cell?_of_block (w := W) (a := ⟨w.heap.size, 0, none⟩) hSq).trans c0; have q1 := (World.cell?_of_block (w := W) (a := ⟨w.heap.size, 1, none⟩) hSq).trans c1; go_simp <;> first | with_reducible rfl | rfl)
  simp only [Act.put, List.setIfInBounds_toArray, List.set_cons_zero, List.set_cons_succ]
  refine take_on (i := 3) (v := ?_) rfl rfl (by kernel_rfl) (by kernel_rfl) (by kernel_rfl) (fun _ _ _ h => h) rfl ?_ hHeld ?_
  rotate_left
  · (intro wq hSq; have q0 := (World.cell?_of_block (w := W) (a := ⟨w.heap.size, 0, none⟩) hSq).trans c0; have q1 := (World.cell?_of_block (w := W) (a := ⟨w.heap.size, 1, none⟩) hSq).trans c1; go_simp <;> first | with_reducible rfl | rfl)
  simp only [Act.put, List.setIfInBounds_toArray, List.set_cons_zero, List.set_cons_succ]
  refine take_on (i := 4) (v := ?_) rfl rfl (by kernel_rfl) (by kernel_rfl) (by kernel_rfl) (fun _ _ _ h => h) rfl ?_ hHeld ?_
  rotate_left
  · (intro wq hSq; have q0 := (World.cell?_of_block (w := W) (a := ⟨w.heap.size, 0, none⟩) hSq).trans c0; have q1 := (World.cell?_of_block (w := W) (a := ⟨w.heap.size, 1, none⟩) hSq).trans c1; go_simp <;> first | with_reducible rfl | rfl)
  simp only [Act.put, List.setIfInBounds_toArray, List.set_cons_zero, List.set_cons_succ]
  refine take_on (i := 6) (v := ?_) rfl rfl (by kernel_rfl) (by kernel_rfl) (by kernel_rfl) (fun _ _ _ h => h) rfl ?_ hHeld ?_
  rotate_left
  · (intro wq hSq; have q0 := (World.cell?_of_block (w := W) (a := ⟨w.heap.size, 0, none⟩) hSq).trans c0; have q1 := (World.cell?_of_block (w := W) (a := ⟨w.heap.size, 1, none⟩) hSq).trans c1; go_simp <;> first | with_reducible rfl | rfl)
  simp only [Act.put, List.setIfInBounds_toArray, List.set_cons_zero, List.set_cons_succ]
  refine take_one (i := 1) rfl (by kernel_rfl) (fun K hK => ?_)
  go_simp
  refine hle1.mono ?_; rintro e w6 ⟨rfl, hq⟩; have hq2 := hq.symm; subst hq2; clear hq
  try go_wp2_with fail
  refine hK.out _ _ ?_ (fun hHeld => ?_)
  · rfl
  clear hK K
  try simp only [Act.put, List.setIfInBounds_toArray, List.set_cons_zero, List.set_cons_succ]
  refine take_on (i := 5) (v := ?_) rfl rfl (by kernel_rfl) (by kernel_rfl) (by kernel_rfl) (fun _ _ _ h => h) rfl ?_ hHeld ?_
  rotate_left
  · (intro wq hSq; have q0 := (World.cell?_of_block (w := W) (a := ⟨w.heap.size, 0, none⟩) hSq).trans c0; have q1 := (World.cell?_of_block (w := W) (a := ⟨w.heap.size, 1, none⟩) hSq).trans c1; go_simp <;> first | with_reducible rfl | rfl)
  simp only [Act.put, List.setIfInBounds_toArray, List.set_cons_zero, List.set_cons_succ]
  refine take_on (i := 7) (v := ?_) rfl rfl (by kernel_rfl) (by kernel_rfl) (by kernel_rfl) (fun _ _ _ h => h) rfl ?_ hHeld ?_
  rotate_left
  · (intro wq hSq; have q0 := (World.cell?_of_block (w := W) (a := ⟨w.heap.size, 0, none⟩) hSq).trans c0; have q1 := (World.cell?_of_block (w := W) (a := ⟨w.heap.size, 1, none⟩) hSq).trans c1; go_simp <;> first | with_reducible rfl | rfl)
  simp only [Act.put, List.setIfInBounds_toArray, List.set_cons_zero, List.set_cons_succ]
  refine take_one (i := 8) rfl (by kernel_rfl) (fun K hK => ?_)
  go_simp
  skip
  try go_wp2_with fail
  refine hK.out _ _ ?_ (fun hHeld => ?_)
  · exact (Below.heap_setCell _ _ _ _ (by simp; omega)).trans ((Below.heap_setCell _ _ _ _ (by simp; omega)).trans hHeld)
  clear hK K
  try simp only [Act.put, List.setIfInBounds_toArray, List.set_cons_zero, List.set_cons_succ]
  refine wpAnyH_done (by kernel_rfl) ?_ _
  go_wp2
  refine bodyPost_ret (v := .tuple #[.bool true, .agg #[.int .i64 (most : Int), .slice a xs.length cap]]) (by simp [results, Try.results15, go_sem, e0, e1]) rfl ?_
  exact (did_same H.out hsz HP.out.below (Below.refl _ _)).drew

set_option maxRecDepth 100000 in
set_option maxHeartbeats 2000000 in
theorem does_clear (b g most base : Nat) (v : Value) (xs : List ByteArray) (s : ByteArray) (w : World) (h : Both w b g most base v xs) (hbase : base ≤ w.heap.size) :
    Calls Try.prog 15 #[.pointer (some ⟨b, 0, none⟩), .agg #[.int .i64 (most : Int), v], .agg #[.int .i64 5, .string s]] w fun e w' => Did w w' b g most base v [] e := by
  have hlen := h.qu.len
  obtain ⟨a, cap, rfl, hr, hcap, hnil⟩ := h.shape
  have hpre := pre_made w most (.slice a xs.length cap) 5 s
  obtain ⟨W, hW⟩ : ∃ W, W = (((w.alloc (.cells #[.int .i64 (most : Int), .slice a xs.length cap] 24)).alloc (.cells #[.int .i64 5, .string s] 38)).alloc (.cells #[.int .i64 0, .slice none 0 0] 24)) := ⟨_, rfl⟩
  rw [← hW] at hpre
  have hBW := h.below hpre.below
  have hrW := hr.below hpre.below
  have c0 := cell_of_row _ _ 0 _ _ _ hpre.want
  have c1 := cell_of_row _ _ 1 _ _ _ hpre.want
  have c2 := cell_of_row _ _ 0 _ _ _ hpre.step
  have c3 := cell_of_row _ _ 1 _ _ _ hpre.step
  simp only [List.getElem?_toArray, List.getElem?_cons_zero, List.getElem?_cons_succ] at c0 c1 c2 c3
  have hcl := clearS_any b g most xs W hBW.qu
  have hsz := hpre.size
  have H := hide_it h
  have HP := hide_it hpre
  have HBW := hide_it hBW
  clear h hpre hBW hr hrW hnil
  go_enter Try.func15, Try.ntmps15
  go_wp2_with fail
  rw [← hW]
  clear hW
  refine hcl.mono ?_
  rintro e w5 ⟨rfl, hq5, ho5⟩
  have hbs := H.out.qu.lt
  have s5 := ho5.size
  have hw5 := (ho5.block w.heap.size (by omega) (by omega) (by omega)).trans HP.out.want
  have hr5 := (ho5.block (w.heap.size + 1 + 1) (by omega) (by omega) (by omega)).trans HP.out.res
  have k0 := cell_of_row _ _ 0 _ _ _ hw5
  have k1 := cell_of_row _ _ 1 _ _ _ hw5
  simp only [List.getElem?_toArray, List.getElem?_cons_zero, List.getElem?_cons_succ] at k0 k1
  have HO5 := hide_it ho5
  have HQ5 := hide_it hq5
  have HR5 := hide_it hr5
  have hrc := rclear_any (most : Int) (.slice a xs.length cap) a xs.length cap rfl w5
  clear hcl ho5 hq5 hr5 hw5 c0 c1 c2 c3
  go_wp2_with fail
  refine hrc.mono ?_
  rintro e w6 ⟨rfl, hb6⟩
  have hres := (hb6.block (w.heap.size + 1 + 1) (by omega)).trans HR5.out
  have e0 := cell_of_row _ _ 0 _ _ _ hres
  have e1 := cell_of_row _ _ 1 _ _ _ hres
  have f0 := frozen_of_row _ _ 0 _ _ hres
  have f1 := frozen_of_row _ _ 1 _ _ hres
  simp only [List.getElem?_toArray, List.getElem?_cons_zero, List.getElem?_cons_succ] at e0 e1
  clear hres
  have HB6 := hide_it hb6
  clear hrc hb6 k0 k1
  go_wp2
  refine bodyPost_ret (v := .tuple #[.bool true, .agg #[.int .i64 (most : Int), .slice none 0 0]]) (by simp [results, Try.results15, go_sem, e0, e1]) rfl ?_
  exact did_end (w5 := W) (w6 := w6) H.out hbase hsz HP.out.below (Below.refl _ _) (OwS.nil _ _) (HO5.out.trans (Only.of_below (g := g) HB6.out) (.inl rfl)) (.inr (.inl rfl)) (HQ5.out.below HB6.out)

set_option maxRecDepth 100000 in
set_option maxHeartbeats 2000000 in
theorem does_first_nil (b g most base : Nat) (v : Value) (xs : List ByteArray) (s : ByteArray) (w : World) (h : Both w b g most base v xs) (hx : xs = []) :
    Calls Try.prog 15 #[.pointer (some ⟨b, 0, none⟩), .agg #[.int .i64 (most : Int), v], .agg #[.int .i64 2, .string s]] w fun e w' => Did w w' b g most base v xs e := by
  have hlen := h.qu.len
  obtain ⟨a, cap, rfl, hr, hcap, hnil⟩ := h.shape
  have hpre := pre_made w most (.slice a xs.length cap) 2 s
  obtain ⟨W, hW⟩ : ∃ W, W = (((w.alloc (.cells #[.int .i64 (most : Int), .slice a xs.length cap] 24)).alloc (.cells #[.int .i64 2, .string s] 38)).alloc (.cells #[.int .i64 0, .slice none 0 0] 24)) := ⟨_, rfl⟩
  rw [← hW] at hpre
  have hBW := h.below hpre.below
  have hrW := hr.below hpre.below
  have c0 := cell_of_row _ _ 0 _ _ _ hpre.want
  have c1 := cell_of_row _ _ 1 _ _ _ hpre.want
  have c2 := cell_of_row _ _ 0 _ _ _ hpre.step
  have c3 := cell_of_row _ _ 1 _ _ _ hpre.step
  simp only [List.getElem?_toArray, List.getElem?_cons_zero, List.getElem?_cons_succ] at c0 c1 c2 c3
  have hrf : Calls Try.prog 29 #[.agg #[.int .i64 (most : Int), .slice a xs.length cap]] W fun e w' => e = .returned (.tuple #[.string { data := #[] }, .bool false]) ∧ Below W.heap.size W w' := by
    rw [hx]; exact rfirst_nil _ _ _ _
  have hqf : ∀ w', Below W.heap.size W w' → Calls Try.prog 30 #[.pointer (some ⟨b, 0, none⟩)] w' fun e w'' => e = .returned (.tuple #[.string { data := #[] }, .bool false]) ∧ Below w'.heap.size w' w'' := fun w' hb =>
    (firstS_nil b g most w' ((hx ▸ hBW.qu : QuS W b g most []).below hb)).mono fun e w'' ⟨h1, h2⟩ => ⟨h1, by rw [h2]; exact Below.refl _ _⟩
  have hsz := hpre.size
  have H := hide_it h
  have HP := hide_it hpre
  have HBW := hide_it hBW
  clear h hpre hBW hr hrW hnil
  clear hx
  go_enter Try.func15, Try.ntmps15
  go_wp2_with fail
  rw [← hW]
  clear hW
  refine hrf.mono ?_
  rintro e w4 ⟨rfl, hb4⟩
  have hqf4 := hqf w4 hb4
  have HB4 := hide_it hb4
  clear hrf hqf hb4
  go_wp2_with fail
  refine hqf4.mono ?_
  rintro e w5 ⟨rfl, hb5⟩
  have hBB := HB4.out.trans (hb5.mono HB4.out.size)
  have hres := (hBB.block (w.heap.size + 1 + 1) (by omega)).trans HP.out.res
  have e0 := cell_of_row _ _ 0 _ _ _ hres
  have e1 := cell_of_row _ _ 1 _ _ _ hres
  have f0 := frozen_of_row _ _ 0 _ _ hres
  have f1 := frozen_of_row _ _ 1 _ _ hres
  simp only [List.getElem?_toArray, List.getElem?_cons_zero, List.getElem?_cons_succ] at e0 e1
  clear hres
  have k0 := (hBB.cell (p := ⟨w.heap.size, 0, none⟩) (by simp; omega)).trans c0
  have k1 := (hBB.cell (p := ⟨w.heap.size, 1, none⟩) (by simp; omega)).trans c1
  have HBB := hide_it hBB
  clear hqf4 hb5 hBB c0 c1 c2 c3
  go_wp2
  go_region
  all_goals go_wp2
  all_goals (refine bodyPost_ret (v := .tuple #[.bool true, .agg #[.int .i64 (most : Int), .slice a xs.length cap]]) (by simp [results, Try.results15, go_sem, e0, e1]) rfl ?_)
  all_goals exact (did_same H.out hsz HP.out.below HBB.out).drew

set_option maxRecDepth 100000 in
set_option maxHeartbeats 2000000 in
theorem does_first_cons (b g most base : Nat) (v : Value) (x : ByteArray) (r : List ByteArray) (xs : List ByteArray) (s : ByteArray) (w : World) (h : Both w b g most base v xs) (hx : xs = (x :: r)) :
    Calls Try.prog 15 #[.pointer (some ⟨b, 0, none⟩), .agg #[.int .i64 (most : Int), v], .agg #[.int .i64 2, .string s]] w fun e w' => Did w w' b g most base v xs e := by
  have hlen := h.qu.len
  obtain ⟨a, cap, rfl, hr, hcap, hnil⟩ := h.shape
  have hpre := pre_made w most (.slice a xs.length cap) 2 s
  obtain ⟨W, hW⟩ : ∃ W, W = (((w.alloc (.cells #[.int .i64 (most : Int), .slice a xs.length cap] 24)).alloc (.cells #[.int .i64 2, .string s] 38)).alloc (.cells #[.int .i64 0, .slice none 0 0] 24)) := ⟨_, rfl⟩
  rw [← hW] at hpre
  have hBW := h.below hpre.below
  have hrW := hr.below hpre.below
  have c0 := cell_of_row _ _ 0 _ _ _ hpre.want
  have c1 := cell_of_row _ _ 1 _ _ _ hpre.want
  have c2 := cell_of_row _ _ 0 _ _ _ hpre.step
  have c3 := cell_of_row _ _ 1 _ _ _ hpre.step
  simp only [List.getElem?_toArray, List.getElem?_cons_zero, List.getElem?_cons_succ] at c0 c1 c2 c3
  have hrf : Calls Try.prog 29 #[.agg #[.int .i64 (most : Int), .slice a xs.length cap]] W fun e w' => e = .returned (.tuple #[.string x, .bool true]) ∧ Below W.heap.size W w' := by
    rw [hx]; exact rfirst_cons _ _ _ x r W (hx ▸ hrW)
  have hqf : ∀ w', Below W.heap.size W w' → Calls Try.prog 30 #[.pointer (some ⟨b, 0, none⟩)] w' fun e w'' => e = .returned (.tuple #[.string x, .bool true]) ∧ Below w'.heap.size w' w'' := fun w' hb =>
    firstS_cons b g most x r w' ((hx ▸ hBW.qu : QuS W b g most (x :: r)).below hb)
  have hsz := hpre.size
  have H := hide_it h
  have HP := hide_it hpre
  have HBW := hide_it hBW
  clear h hpre hBW hr hrW hnil
  clear hx
  go_enter Try.func15, Try.ntmps15
  go_wp2_with fail
  rw [← hW]
  clear hW
  refine hrf.mono ?_
  rintro e w4 ⟨rfl, hb4⟩
  have hqf4 := hqf w4 hb4
  have HB4 := hide_it hb4
  clear hrf hqf hb4
  go_wp2_with fail
  refine hqf4.mono ?_
  rintro e w5 ⟨rfl, hb5⟩
  have hBB := HB4.out.trans (hb5.mono HB4.out.size)
  have hres := (hBB.block (w.heap.size + 1 + 1) (by omega)).trans HP.out.res
  have e0 := cell_of_row _ _ 0 _ _ _ hres
  have e1 := cell_of_row _ _ 1 _ _ _ hres
  have f0 := frozen_of_row _ _ 0 _ _ hres
  have f1 := frozen_of_row _ _ 1 _ _ hres
  simp only [List.getElem?_toArray, List.getElem?_cons_zero, List.getElem?_cons_succ] at e0 e1
  clear hres
  have k0 := (hBB.cell (p := ⟨w.heap.size, 0, none⟩) (by simp; omega)).trans c0
  have k1 := (hBB.cell (p := ⟨w.heap.size, 1, none⟩) (by simp; omega)).trans c1
  have HBB := hide_it hBB
  clear hqf4 hb5 hBB c0 c1 c2 c3
  go_wp2
  go_region
  all_goals go_wp2
  all_goals (refine bodyPost_ret (v := .tuple #[.bool true, .agg #[.int .i64 (most : Int), .slice a xs.length cap]]) (by simp [results, Try.results15, go_sem, e0, e1]) rfl ?_)
  all_goals exact (did_same H.out hsz HP.out.below HBB.out).drew

set_option maxRecDepth 100000 in
set_option maxHeartbeats 2000000 in
theorem does_all (b g most base : Nat) (v : Value) (xs : List ByteArray) (s : ByteArray) (w : World) (h : Both w b g most base v xs) (_hbase : base ≤ w.heap.size) :
    Calls Try.prog 15 #[.pointer (some ⟨b, 0, none⟩), .agg #[.int .i64 (most : Int), v], .agg #[.int .i64 4, .string s]] w fun e w' => Did w w' b g most base v xs e := by
  have hlen := h.qu.len
  obtain ⟨a, cap, rfl, hr, hcap, hnil⟩ := h.shape
  have hpre := pre_made w most (.slice a xs.length cap) 4 s
  obtain ⟨W, hW⟩ : ∃ W, W = (((w.alloc (.cells #[.int .i64 (most : Int), .slice a xs.length cap] 24)).alloc (.cells #[.int .i64 4, .string s] 38)).alloc (.cells #[.int .i64 0, .slice none 0 0] 24)) := ⟨_, rfl⟩
  rw [← hW] at hpre
  have hBW := h.below hpre.below
  have hrW := hr.below hpre.below
  have c0 := cell_of_row _ _ 0 _ _ _ hpre.want
  have c1 := cell_of_row _ _ 1 _ _ _ hpre.want
  have c2 := cell_of_row _ _ 0 _ _ _ hpre.step
  have c3 := cell_of_row _ _ 1 _ _ _ hpre.step
  simp only [List.getElem?_toArray, List.getElem?_cons_zero, List.getElem?_cons_succ] at c0 c1 c2 c3
  have hwa := walkedS_any (some ⟨b, 0, none⟩) g most xs W (.inr ⟨b, rfl, hBW.qu⟩)
  have HRW := hide_it hrW
  have hsz := hpre.size
  have H := hide_it h
  have HP := hide_it hpre
  have HBW := hide_it hBW
  clear h hpre hBW hr hrW hnil
  go_enter Try.func15, Try.ntmps15
  go_wp2_with fail
  rw [← hW]
  clear hW
  refine hwa.mono ?_
  rintro e w5 ⟨v5, rfl, how5, hb5⟩
  obtain ⟨a5, c5, rfl, hr5, _, _⟩ := how5.row
  have hres := (hb5.block (w.heap.size + 1 + 1) (by omega)).trans HP.out.res
  have e0 := cell_of_row _ _ 0 _ _ _ hres
  have e1 := cell_of_row _ _ 1 _ _ _ hres
  have f0 := frozen_of_row _ _ 0 _ _ hres
  have f1 := frozen_of_row _ _ 1 _ _ hres
  simp only [List.getElem?_toArray, List.getElem?_cons_zero, List.getElem?_cons_succ] at e0 e1
  clear hres
  have k0 := (hb5.cell (p := ⟨w.heap.size, 0, none⟩) (by simp; omega)).trans c0
  have k1 := (hb5.cell (p := ⟨w.heap.size, 1, none⟩) (by simp; omega)).trans c1
  have heq : Calls Try.prog 17 #[.slice a5 xs.length c5, .slice a xs.length cap] (w5.drewN 1) fun e w' => e = .returned (.bool true) ∧ Below w5.heap.size w5 w' :=
    (equalS_any a5 a c5 cap xs xs (w5.drewN 1) (hr5.below (below_drewN (Below.refl _ _) 1)) ((HRW.out.below hb5).below (below_drewN (Below.refl _ _) 1)) (by omega)).mono fun e w' ⟨h1, h2⟩ => ⟨by rw [h1]; simp, (below_drewN (Below.refl _ _) 1).trans h2⟩
  have hs5 := hb5.size
  have hw5 := (hb5.block w.heap.size (by omega)).trans HP.out.want
  have HW5 := hide_it hw5
  have HB5 := hide_it hb5
  have HR5 := hide_it ((hb5.block (w.heap.size + 1 + 1) (by omega)).trans HP.out.res)
  clear hwa hb5 hr5 how5 hw5 c0 c1 c2 c3 e0 e1 f0 f1
  go_wp2_with fail
  refine wp_region_held_drew (S := (fun w' => w'.heap[w.heap.size]? = w5.heap[w.heap.size]?)) (by kernel_rfl) ?_ (fun hHeld => ?_)
  · rfl
  refine take_on (i := 0) (v := ?_) rfl rfl (by kernel_rfl) (by kernel_rfl) (by kernel_rfl) (fun _ _ _ h => h) rfl ?_ hHeld ?_
  rotate_left
  · (intro wq hSq; have q0 := (World.cell?_of_block (w := w5) (a := ⟨w.heap.size, 0, none⟩) hSq).trans k0; have q1 := (World.cell?_of_block (w := w5) (a := ⟨w.heap.size, 1, none⟩) hSq).trans k1; go_simp <;> first | with_reducible rfl | rfl)
  simp only [Act.put, List.setIfInBounds_toArray, List.set_cons_zero, List.set_cons_succ]
  refine take_on (i := 1) (v := ?_) rfl rfl (by kernel_rfl) (by kernel_rfl) (by kernel_rfl) (fun _ _ _ h => h) rfl ?_ hHeld ?_
  rotate_left
  · (intro wq hSq; have q0 := (World.cell?_of_block (w := w5) (a := ⟨w.heap.size, 0, none⟩) hSq).trans k0; have q1 := (World.cell?_of_block (w := w5) (a := ⟨w.heap.size, 1, none⟩) hSq).trans k1; go_simp <;> first | with_reducible rfl | rfl)
  simp only [Act.put, List.setIfInBounds_toArray, List.set_cons_zero, List.set_cons_succ]
  refine take_on (i := 2) (v := ?_) rfl rfl (by kernel_rfl) (by kernel_rfl) (by kernel_rfl) (fun _ _ _ h => h) rfl ?_ hHeld ?_
  rotate_left
  · (intro wq hSq; have q0 := (World.cell?_of_block (w := w5) (a := ⟨w.heap.size, 0, none⟩) hSq).trans k0; have q1 := (World.cell?_of_block (w := w5) (a := ⟨w.heap.size, 1, none⟩) hSq).trans k1; go_simp <;> first | with_reducible rfl | rfl)
  simp only [Act.put, List.setIfInBounds_toArray, List.set_cons_zero, List.set_cons_succ]
  refine take_on (i := 3) (v := ?_) rfl rfl (by kernel_rfl) (by kernel_rfl) (by kernel_rfl) (fun _ _ _ h => h) rfl ?_ hHeld ?_
  rotate_left
  · (intro wq hSq; have q0 := (World.cell?_of_block (w := w5) (a := ⟨w.heap.size, 0, none⟩) hSq).trans k0; have q1 := (World.cell?_of_block (w := w5) (a := ⟨w.heap.size, 1, none⟩) hSq).trans k1; go_simp <;> first | with_reducible rfl | rfl)
  simp only [Act.put, List.setIfInBounds_toArray, List.set_cons_zero, List.set_cons_succ]
  refine take_on (i := 4) (v := ?_) rfl rfl (by kernel_rfl) (by kernel_rfl) (by kernel_rfl) (fun _ _ _ h => h) rfl ?_ hHeld ?_
  rotate_left
  · (intro wq hSq; have q0 := (World.cell?_of_block (w := w5) (a := ⟨w.heap.size, 0, none⟩) hSq).trans k0; have q1 := (World.cell?_of_block (w := w5) (a := ⟨w.heap.size, 1, none⟩) hSq).trans k1; go_simp <;> first | with_reducible rfl | rfl)
  simp only [Act.put, List.setIfInBounds_toArray, List.set_cons_zero, List.set_cons_succ]
  refine take_on (i := 7) (v := ?_) rfl rfl (by kernel_rfl) (by kernel_rfl) (by kernel_rfl) (fun _ _ _ h => h) rfl ?_ hHeld ?_
  rotate_left
  · (intro wq hSq; have q0 := (World.cell?_of_block (w := w5) (a := ⟨w.heap.size, 0, none⟩) hSq).trans k0; have q1 := (World.cell?_of_block (w := w5) (a := ⟨w.heap.size, 1, none⟩) hSq).trans k1; go_simp <;> first | with_reducible rfl | rfl)
  simp only [Act.put, List.setIfInBounds_toArray, List.set_cons_zero, List.set_cons_succ]
  refine take_one (i := 5) rfl (by kernel_rfl) (fun K hK => ?_)
  go_simp
  refine heq.mono ?_; rintro e w6 ⟨rfl, hb6⟩; have hres := (hb6.block (w.heap.size + 1 + 1) (by omega)).trans HR5.out; have e0 := cell_of_row _ _ 0 _ _ _ hres; have e1 := cell_of_row _ _ 1 _ _ _ hres; have f0 := frozen_of_row _ _ 0 _ _ hres; have f1 := frozen_of_row _ _ 1 _ _ hres; simp only [List.getElem?_toArray, List.getElem?_cons_zero, List.getElem?_cons_succ] at e0 e1; clear hres; have HB6 := hide_it hb6; clear hb6
  try go_wp2_with fail
  refine hK.out _ _ ?_ (fun hHeld => ?_)
  · exact HB6.out.block _ (by omega)
  clear hK K
  try simp only [Act.put, List.setIfInBounds_toArray, List.set_cons_zero, List.set_cons_succ]
  refine take_on (i := 6) (v := ?_) rfl rfl (by kernel_rfl) (by kernel_rfl) (by kernel_rfl) (fun _ _ _ h => h) rfl ?_ hHeld ?_
  rotate_left
  · (intro wq hSq; have q0 := (World.cell?_of_block (w := w5) (a := ⟨w.heap.size, 0, none⟩) hSq).trans k0; have q1 := (World.cell?_of_block (w := w5) (a := ⟨w.heap.size, 1, none⟩) hSq).trans k1; go_simp <;> first | with_reducible rfl | rfl)
  simp only [Act.put, List.setIfInBounds_toArray, List.set_cons_zero, List.set_cons_succ]
  refine take_on (i := 8) (v := ?_) rfl rfl (by kernel_rfl) (by kernel_rfl) (by kernel_rfl) (fun _ _ _ h => h) rfl ?_ hHeld ?_
  rotate_left
  · (intro wq hSq; have q0 := (World.cell?_of_block (w := w5) (a := ⟨w.heap.size, 0, none⟩) hSq).trans k0; have q1 := (World.cell?_of_block (w := w5) (a := ⟨w.heap.size, 1, none⟩) hSq).trans k1; go_simp <;> first | with_reducible rfl | rfl)
  simp only [Act.put, List.setIfInBounds_toArray, List.set_cons_zero, List.set_cons_succ]
  refine take_one (i := 9) rfl (by kernel_rfl) (fun K hK => ?_)
  go_simp
  skip
  try go_wp2_with fail
  refine hK.out _ _ ?_ (fun hHeld => ?_)
  · exact (Below.heap_setCell _ _ _ _ (by simp; omega)).trans ((Below.heap_setCell _ _ _ _ (by simp; omega)).trans hHeld)
  clear hK K
  try simp only [Act.put, List.setIfInBounds_toArray, List.set_cons_zero, List.set_cons_succ]
  refine wpAnyH_done (by kernel_rfl) ?_ _
  go_wp2
  refine bodyPost_ret (v := .tuple #[.bool true, .agg #[.int .i64 (most : Int), .slice a xs.length cap]]) (by simp [results, Try.results15, go_sem, e0, e1]) rfl ?_
  exact did_same H.out hsz HP.out.below (HB5.out.trans (HB6.out.mono HB5.out.size))

end Go.Proofs.Ytomfhbngpikjeaa
