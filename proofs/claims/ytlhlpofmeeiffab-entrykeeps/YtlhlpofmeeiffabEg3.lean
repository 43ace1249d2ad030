/- What an entry says of a key: the program's Version, and the document's. -/
import Derived.Test.YtlhlpofmeeiffabEg2
namespace Go.Proofs.Ytlhlpofmeeiffab
open Go.RowKit

def versionV (x : En) : Vn := if x.kind = 1 then ⟨x.key, 0, x.val, false⟩ else if x.kind = 2 then ⟨x.key, 0, [], true⟩ else if x.kind = 5 then ⟨x.key, x.stamp, x.val, x.dead⟩ else zeroVn
def isV (x : En) : Bool := hk x.kind

set_option maxRecDepth 100000 in
set_option maxHeartbeats 1000000 in
theorem version_1 (x : En) (a : Option Addr) (c : Nat) (w : World) (hkk : x.kind = 1) (hr : RowB w a x.val) (hl : x.val.length ≤ 140737488355328) (hnil : a = none → x.val.length = 0 ∧ c = 0) :
    Calls Try.prog 10 #[valE x a c] w fun e w' => VnTo w ⟨x.key, 0, x.val, false⟩ true e w' := by
  obtain ⟨W0, hW0⟩ : ∃ W, W = (w.alloc (.cells #[.int .i64 x.kind, .int .i64 x.stamp, .int .i64 x.count, .string x.key, .slice a x.val.length c, .bool x.dead] 24)).alloc (.cells #[.string ⟨#[]⟩, .int .i64 0, .slice none 0 0, .bool false] 30) := ⟨_, rfl⟩
  have hb0 : Below w.heap.size w W0 := by rw [hW0]; exact ((Below.refl _ _).alloc (Nat.le_refl _) _).alloc (by simp) _
  have hs0 : W0.heap.size = w.heap.size + 2 := by rw [hW0]; simp
  have hbx : BoxN W0 w.heap.size x a c := by rw [hW0]; exact (Below.heap_alloc _ _ _ (by simp)).trans (heap_alloc_new w _)
  have hrs : BoxW W0 (w.heap.size + 1) zeroVn none 0 := by
    rw [hW0]
    have e := heap_alloc_new (w.alloc (.cells #[.int .i64 x.kind, .int .i64 x.stamp, .int .i64 x.count, .string x.key, .slice a x.val.length c, .bool x.dead] 24)) (.cells #[.string ⟨#[]⟩, .int .i64 0, .slice none 0 0, .bool false] 30)
    rw [World.size_alloc] at e
    exact e
  have hfr := clone_any a c x.val W0.drew (hr.below (hb0.drew)) hl hnil
  obtain ⟨c0, c1, c2, c3, c4, c5⟩ := hbx.inE
  have HS0 := hide_it hs0
  have HRS := hide_it hrs
  clear hr hnil hl hs0 hrs
  obtain ⟨Q, hQ⟩ : ∃ Q, Q = VnTo w ⟨x.key, 0, x.val, false⟩ true := ⟨_, rfl⟩
  rw [← hQ]
  have HQ : Hid (∀ (y1 : World) (av : Option Addr) (cv : Nat), OwnB y1 W0.heap.size (.slice av x.val.length cv) x.val → Below W0.heap.size W0 y1 → Q (.returned (.tuple #[.agg #[.string x.key, .int .i64 0, .slice av x.val.length cv, .bool false], .bool true])) (fillV y1 (w.heap.size + 1) ⟨x.key, 0, x.val, false⟩ av cv)) := fun y1 av cv h1 h2 => by
    rw [hQ]
    have hs := HS0.out
    exact ⟨⟨av, cv, rfl, (OwnB.fillV h1 (by omega) _ _ _).mono (by omega)⟩, fillV_below (hb0.trans (h2.mono (by omega))) (by omega) _ _ _⟩
  clear hQ hb0 hbx
  obtain ⟨kind, stamp, count, key, val, dead⟩ := x
  simp only at c0 c1 c2 c3 c4 c5 hfr HQ hW0
  simp only at hkk
  subst hkk
  go_enter Try.func10, Try.ntmps10
  go_wp2_with fail
  rw [← hW0]
  clear hW0
  refine wp_region_held_drew (S := (fun w' => w'.heap[w.heap.size]? = W0.heap[w.heap.size]?)) (by kernel_rfl) ?_ (fun hHeld => ?_)
  · rfl
  refine take_on (i := 0) (v := ?_) rfl rfl (by kernel_rfl) (by kernel_rfl) (by kernel_rfl) (fun _ _ _ h => h) rfl ?_ hHeld ?_
  rotate_left
  · (intro wq hSq; have q0 := (World.cell?_of_block (w := W0) (a := ⟨w.heap.size, 0, none⟩) hSq).trans c0; have q1 := (World.cell?_of_block (w := W0) (a := ⟨w.heap.size, 1, none⟩) hSq).trans c1; have q2 := (World.cell?_of_block (w := W0) (a := ⟨w.heap.size, 2, none⟩) hSq).trans c2; have q3 := (World.cell?_of_block (w := W0) (a := ⟨w.heap.size, 3, none⟩) hSq).trans c3; have q4 := (World.cell?_of_block (w := W0) (a := ⟨w.heap.size, 4, none⟩) hSq).trans c4; have q5 := (World.cell?_of_block (w := W0) (a := ⟨w.heap.size, 5, none⟩) hSq).trans c5; go_simp <;> first | with_reducible rfl | rfl)
  simp only [Act.put, List.setIfInBounds_toArray, List.set_cons_zero, List.set_cons_succ]
  refine take_on (i := 1) (v := ?_) rfl rfl (by kernel_rfl) (by kernel_rfl) (by kernel_rfl) (fun _ _ _ h => h) rfl ?_ hHeld ?_
  rotate_left
  · (intro wq hSq; have q0 := (World.cell?_of_block (w := W0) (a := ⟨w.heap.size, 0, none⟩) hSq).trans c0; have q1 := (World.cell?_of_block (w := W0) (a := ⟨w.heap.size, 1, none⟩) hSq).trans c1; have q2 := (World.cell?_of_block (w := W0) (a := ⟨w.heap.size, 2, none⟩) hSq).trans c2; have q3 := (World.cell?_of_block (w := W0) (a := ⟨w.heap.size, 3, none⟩) hSq).trans c3; have q4 := (World.cell?_of_block (w := W0) (a := ⟨w.heap.size, 4, none⟩) hSq).trans c4; have q5 := (World.cell?_of_block (w := W0) (a := ⟨w.heap.size, 5, none⟩) hSq).trans c5; go_simp <;> first | with_reducible rfl | rfl)
  simp only [Act.put, List.setIfInBounds_toArray, List.set_cons_zero, List.set_cons_succ]
  refine take_on (i := 2) (v := ?_) rfl rfl (by kernel_rfl) (by kernel_rfl) (by kernel_rfl) (fun _ _ _ h => h) rfl ?_ hHeld ?_
  rotate_left
  · (intro wq hSq; have q0 := (World.cell?_of_block (w := W0) (a := ⟨w.heap.size, 0, none⟩) hSq).trans c0; have q1 := (World.cell?_of_block (w := W0) (a := ⟨w.heap.size, 1, none⟩) hSq).trans c1; have q2 := (World.cell?_of_block (w := W0) (a := ⟨w.heap.size, 2, none⟩) hSq).trans c2; have q3 := (World.cell?_of_block (w := W0) (a := ⟨w.heap.size, 3, none⟩) hSq).trans c3; have q4 := (World.cell?_of_block (w := W0) (a := ⟨w.heap.size, 4, none⟩) hSq).trans c4; have q5 := (World.cell?_of_block (w := W0) (a := ⟨w.heap.size, 5, none⟩) hSq).trans c5; go_simp <;> first | with_reducible rfl | rfl)
  simp only [Act.put, List.setIfInBounds_toArray, List.set_cons_zero, List.set_cons_succ]
  refine take_on (i := 3) (v := ?_) rfl rfl (by kernel_rfl) (by kernel_rfl) (by kernel_rfl) (fun _ _ _ h => h) rfl ?_ hHeld ?_
  rotate_left
  · (intro wq hSq; have q0 := (World.cell?_of_block (w := W0) (a := ⟨w.heap.size, 0, none⟩) hSq).trans c0; have q1 := (World.cell?_of_block (w := W0) (a := ⟨w.heap.size, 1, none⟩) hSq).trans c1; have q2 := (World.cell?_of_block (w := W0) (a := ⟨w.heap.size, 2, none⟩) hSq).trans c2; have q3 := (World.cell?_of_block (w := W0) (a := ⟨w.heap.size, 3, none⟩) hSq).trans c3; have q4 := (World.cell?_of_block (w := W0) (a := ⟨w.heap.size, 4, none⟩) hSq).trans c4; have q5 := (World.cell?_of_block (w := W0) (a := ⟨w.heap.size, 5, none⟩) hSq).trans c5; go_simp <;> first | with_reducible rfl | rfl)
  simp only [Act.put, List.setIfInBounds_toArray, List.set_cons_zero, List.set_cons_succ]
  refine take_one (i := 4) rfl (by kernel_rfl) (fun K hK => ?_)
  go_simp
  refine hfr.mono ?_; rintro e y1 ⟨⟨r, rfl, hown⟩, hb1⟩; have hy : BoxW y1 (w.heap.size + 1) zeroVn none 0 := (hb1.block (w.heap.size + 1) (by have := HS0.out; show w.heap.size + 1 < W0.heap.size; omega)).trans HRS.out; obtain ⟨y0_, y1_, y2_, y3_⟩ := hy.cells; have hz := hy.soft; obtain ⟨a9, c9, e9, _⟩ := hown.row; subst e9; replace hown := hide_it hown; replace hb1 := hide_it hb1
  try go_wp2_with fail
  refine hK.out _ _ ?_ (fun hHeld => ?_)
  · exact hb1.out.block w.heap.size (by have := HS0.out; show w.heap.size < W0.heap.size; omega)
  clear hK K
  try simp only [Act.put, List.setIfInBounds_toArray, List.set_cons_zero, List.set_cons_succ]
  refine take_on (i := 5) (v := ?_) rfl rfl (by kernel_rfl) (by kernel_rfl) (by kernel_rfl) (fun _ _ _ h => h) rfl ?_ hHeld ?_
  rotate_left
  · (intro wq hSq; have q0 := (World.cell?_of_block (w := W0) (a := ⟨w.heap.size, 0, none⟩) hSq).trans c0; have q1 := (World.cell?_of_block (w := W0) (a := ⟨w.heap.size, 1, none⟩) hSq).trans c1; have q2 := (World.cell?_of_block (w := W0) (a := ⟨w.heap.size, 2, none⟩) hSq).trans c2; have q3 := (World.cell?_of_block (w := W0) (a := ⟨w.heap.size, 3, none⟩) hSq).trans c3; have q4 := (World.cell?_of_block (w := W0) (a := ⟨w.heap.size, 4, none⟩) hSq).trans c4; have q5 := (World.cell?_of_block (w := W0) (a := ⟨w.heap.size, 5, none⟩) hSq).trans c5; go_simp <;> first | with_reducible rfl | rfl)
  simp only [Act.put, List.setIfInBounds_toArray, List.set_cons_zero, List.set_cons_succ]
  refine take_one (i := 6) rfl (by kernel_rfl) (fun K hK => ?_)
  go_simp
  skip
  try go_wp2_with fail
  refine hK.out _ _ ?_ (fun hHeld => ?_)
  · exact (fillV_keep (by omega) ⟨key, 0, val, false⟩ a9 c9).trans hHeld
  clear hK K
  try simp only [Act.put, List.setIfInBounds_toArray, List.set_cons_zero, List.set_cons_succ]
  refine take_on (i := 7) (v := ?_) rfl rfl (by kernel_rfl) (by kernel_rfl) (by kernel_rfl) (fun _ _ _ h => h) rfl ?_ hHeld ?_
  rotate_left
  · (intro wq hSq; have q0 := (World.cell?_of_block (w := W0) (a := ⟨w.heap.size, 0, none⟩) hSq).trans c0; have q1 := (World.cell?_of_block (w := W0) (a := ⟨w.heap.size, 1, none⟩) hSq).trans c1; have q2 := (World.cell?_of_block (w := W0) (a := ⟨w.heap.size, 2, none⟩) hSq).trans c2; have q3 := (World.cell?_of_block (w := W0) (a := ⟨w.heap.size, 3, none⟩) hSq).trans c3; have q4 := (World.cell?_of_block (w := W0) (a := ⟨w.heap.size, 4, none⟩) hSq).trans c4; have q5 := (World.cell?_of_block (w := W0) (a := ⟨w.heap.size, 5, none⟩) hSq).trans c5; go_simp <;> first | with_reducible rfl | rfl)
  simp only [Act.put, List.setIfInBounds_toArray, List.set_cons_zero, List.set_cons_succ]
  refine wpAnyH_done (by kernel_rfl) ?_ _
  have hend := HQ.out y1 a9 c9 hown.out ⟨hb1.out.os, hb1.out.tape, hb1.out.output, hb1.out.size, hb1.out.block⟩
  clear HQ hfr hown hb1 HRS
  go_wp2_with fail
  refine bodyPost_ret (v := .tuple #[.agg #[.string key, .int .i64 0, .slice a9 val.length c9, .bool false], .bool true]) ?_ rfl hend
  simp [results, Try.results10, go_sem, y0_, y1_, y2_, y3_]

set_option maxRecDepth 100000 in
set_option maxHeartbeats 1000000 in
theorem version_5 (x : En) (a : Option Addr) (c : Nat) (w : World) (hkk : x.kind = 5) (hr : RowB w a x.val) (hl : x.val.length ≤ 140737488355328) (hnil : a = none → x.val.length = 0 ∧ c = 0) :
    Calls Try.prog 10 #[valE x a c] w fun e w' => VnTo w ⟨x.key, x.stamp, x.val, x.dead⟩ true e w' := by
  obtain ⟨W0, hW0⟩ : ∃ W, W = (w.alloc (.cells #[.int .i64 x.kind, .int .i64 x.stamp, .int .i64 x.count, .string x.key, .slice a x.val.length c, .bool x.dead] 24)).alloc (.cells #[.string ⟨#[]⟩, .int .i64 0, .slice none 0 0, .bool false] 30) := ⟨_, rfl⟩
  have hb0 : Below w.heap.size w W0 := by rw [hW0]; exact ((Below.refl _ _).alloc (Nat.le_refl _) _).alloc (by simp) _
  have hs0 : W0.heap.size = w.heap.size + 2 := by rw [hW0]; simp
  have hbx : BoxN W0 w.heap.size x a c := by rw [hW0]; exact (Below.heap_alloc _ _ _ (by simp)).trans (heap_alloc_new w _)
  have hrs : BoxW W0 (w.heap.size + 1) zeroVn none 0 := by
    rw [hW0]
    have e := heap_alloc_new (w.alloc (.cells #[.int .i64 x.kind, .int .i64 x.stamp, .int .i64 x.count, .string x.key, .slice a x.val.length c, .bool x.dead] 24)) (.cells #[.string ⟨#[]⟩, .int .i64 0, .slice none 0 0, .bool false] 30)
    rw [World.size_alloc] at e
    exact e
  have hfr := clone_any a c x.val W0.drew (hr.below (hb0.drew)) hl hnil
  obtain ⟨c0, c1, c2, c3, c4, c5⟩ := hbx.inE
  have HS0 := hide_it hs0
  have HRS := hide_it hrs
  clear hr hnil hl hs0 hrs
  obtain ⟨Q, hQ⟩ : ∃ Q, Q = VnTo w ⟨x.key, x.stamp, x.val, x.dead⟩ true := ⟨_, rfl⟩
  rw [← hQ]
  have HQ : Hid (∀ (y1 : World) (av : Option Addr) (cv : Nat), OwnB y1 W0.heap.size (.slice av x.val.length cv) x.val → Below W0.heap.size W0 y1 → Q (.returned (.tuple #[.agg #[.string x.key, .int .i64 x.stamp, .slice av x.val.length cv, .bool x.dead], .bool true])) (fillV y1 (w.heap.size + 1) ⟨x.key, x.stamp, x.val, x.dead⟩ av cv)) := fun y1 av cv h1 h2 => by
    rw [hQ]
    have hs := HS0.out
    exact ⟨⟨av, cv, rfl, (OwnB.fillV h1 (by omega) _ _ _).mono (by omega)⟩, fillV_below (hb0.trans (h2.mono (by omega))) (by omega) _ _ _⟩
  clear hQ hb0 hbx
  obtain ⟨kind, stamp, count, key, val, dead⟩ := x
  simp only at c0 c1 c2 c3 c4 c5 hfr HQ hW0
  simp only at hkk
  subst hkk
  go_enter Try.func10, Try.ntmps10
  go_wp2_with fail
  rw [← hW0]
  clear hW0
  refine wp_region_held_drew (S := (fun w' => w'.heap[w.heap.size]? = W0.heap[w.heap.size]?)) (by kernel_rfl) ?_ (fun hHeld => ?_)
  · rfl
  refine take_on (i := 0) (v := ?_) rfl rfl (by kernel_rfl) (by kernel_rfl) (by kernel_rfl) (fun _ _ _ h => h) rfl ?_ hHeld ?_
  rotate_left
  · (intro wq hSq; have q0 := (World.cell?_of_block (w := W0) (a := ⟨w.heap.size, 0, none⟩) hSq).trans c0; have q1 := (World.cell?_of_block (w := W0) (a := ⟨w.heap.size, 1, none⟩) hSq).trans c1; have q2 := (World.cell?_of_block (w := W0) (a := ⟨w.heap.size, 2, none⟩) hSq).trans c2; have q3 := (World.cell?_of_block (w := W0) (a := ⟨w.heap.size, 3, none⟩) hSq).trans c3; have q4 := (World.cell?_of_block (w := W0) (a := ⟨w.heap.size, 4, none⟩) hSq).trans c4; have q5 := (World.cell?_of_block (w := W0) (a := ⟨w.heap.size, 5, none⟩) hSq).trans c5; go_simp <;> first | with_reducible rfl | rfl)
  simp only [Act.put, List.setIfInBounds_toArray, List.set_cons_zero, List.set_cons_succ]
  refine take_on (i := 1) (v := ?_) rfl rfl (by kernel_rfl) (by kernel_rfl) (by kernel_rfl) (fun _ _ _ h => h) rfl ?_ hHeld ?_
  rotate_left
  · (intro wq hSq; have q0 := (World.cell?_of_block (w := W0) (a := ⟨w.heap.size, 0, none⟩) hSq).trans c0; have q1 := (World.cell?_of_block (w := W0) (a := ⟨w.heap.size, 1, none⟩) hSq).trans c1; have q2 := (World.cell?_of_block (w := W0) (a := ⟨w.heap.size, 2, none⟩) hSq).trans c2; have q3 := (World.cell?_of_block (w := W0) (a := ⟨w.heap.size, 3, none⟩) hSq).trans c3; have q4 := (World.cell?_of_block (w := W0) (a := ⟨w.heap.size, 4, none⟩) hSq).trans c4; have q5 := (World.cell?_of_block (w := W0) (a := ⟨w.heap.size, 5, none⟩) hSq).trans c5; go_simp <;> first | with_reducible rfl | rfl)
  simp only [Act.put, List.setIfInBounds_toArray, List.set_cons_zero, List.set_cons_succ]
  refine take_on (i := 2) (v := ?_) rfl rfl (by kernel_rfl) (by kernel_rfl) (by kernel_rfl) (fun _ _ _ h => h) rfl ?_ hHeld ?_
  rotate_left
  · (intro wq hSq; have q0 := (World.cell?_of_block (w := W0) (a := ⟨w.heap.size, 0, none⟩) hSq).trans c0; have q1 := (World.cell?_of_block (w := W0) (a := ⟨w.heap.size, 1, none⟩) hSq).trans c1; have q2 := (World.cell?_of_block (w := W0) (a := ⟨w.heap.size, 2, none⟩) hSq).trans c2; have q3 := (World.cell?_of_block (w := W0) (a := ⟨w.heap.size, 3, none⟩) hSq).trans c3; have q4 := (World.cell?_of_block (w := W0) (a := ⟨w.heap.size, 4, none⟩) hSq).trans c4; have q5 := (World.cell?_of_block (w := W0) (a := ⟨w.heap.size, 5, none⟩) hSq).trans c5; go_simp <;> first | with_reducible rfl | rfl)
  simp only [Act.put, List.setIfInBounds_toArray, List.set_cons_zero, List.set_cons_succ]
  refine take_on (i := 3) (v := ?_) rfl rfl (by kernel_rfl) (by kernel_rfl) (by kernel_rfl) (fun _ _ _ h => h) rfl ?_ hHeld ?_
  rotate_left
  · (intro wq hSq; have q0 := (World.cell?_of_block (w := W0) (a := ⟨w.heap.size, 0, none⟩) hSq).trans c0; have q1 := (World.cell?_of_block (w := W0) (a := ⟨w.heap.size, 1, none⟩) hSq).trans c1; have q2 := (World.cell?_of_block (w := W0) (a := ⟨w.heap.size, 2, none⟩) hSq).trans c2; have q3 := (World.cell?_of_block (w := W0) (a := ⟨w.heap.size, 3, none⟩) hSq).trans c3; have q4 := (World.cell?_of_block (w := W0) (a := ⟨w.heap.size, 4, none⟩) hSq).trans c4; have q5 := (World.cell?_of_block (w := W0) (a := ⟨w.heap.size, 5, none⟩) hSq).trans c5; go_simp <;> first | with_reducible rfl | rfl)
  simp only [Act.put, List.setIfInBounds_toArray, List.set_cons_zero, List.set_cons_succ]
  refine take_on (i := 4) (v := ?_) rfl rfl (by kernel_rfl) (by kernel_rfl) (by kernel_rfl) (fun _ _ _ h => h) rfl ?_ hHeld ?_
  rotate_left
  · (intro wq hSq; have q0 := (World.cell?_of_block (w := W0) (a := ⟨w.heap.size, 0, none⟩) hSq).trans c0; have q1 := (World.cell?_of_block (w := W0) (a := ⟨w.heap.size, 1, none⟩) hSq).trans c1; have q2 := (World.cell?_of_block (w := W0) (a := ⟨w.heap.size, 2, none⟩) hSq).trans c2; have q3 := (World.cell?_of_block (w := W0) (a := ⟨w.heap.size, 3, none⟩) hSq).trans c3; have q4 := (World.cell?_of_block (w := W0) (a := ⟨w.heap.size, 4, none⟩) hSq).trans c4; have q5 := (World.cell?_of_block (w := W0) (a := ⟨w.heap.size, 5, none⟩) hSq).trans c5; go_simp <;> first | with_reducible rfl | rfl)
  simp only [Act.put, List.setIfInBounds_toArray, List.set_cons_zero, List.set_cons_succ]
  refine take_on (i := 5) (v := ?_) rfl rfl (by kernel_rfl) (by kernel_rfl) (by kernel_rfl) (fun _ _ _ h => h) rfl ?_ hHeld ?_
  rotate_left
  · (intro wq hSq; have q0 := (World.cell?_of_block (w := W0) (a := ⟨w.heap.size, 0, none⟩) hSq).trans c0; have q1 := (World.cell?_of_block (w := W0) (a := ⟨w.heap.size, 1, none⟩) hSq).trans c1; have q2 := (World.cell?_of_block (w := W0) (a := ⟨w.heap.size, 2, none⟩) hSq).trans c2; have q3 := (World.cell?_of_block (w := W0) (a := ⟨w.heap.size, 3, none⟩) hSq).trans c3; have q4 := (World.cell?_of_block (w := W0) (a := ⟨w.heap.size, 4, none⟩) hSq).trans c4; have q5 := (World.cell?_of_block (w := W0) (a := ⟨w.heap.size, 5, none⟩) hSq).trans c5; go_simp <;> first | with_reducible rfl | rfl)
  simp only [Act.put, List.setIfInBounds_toArray, List.set_cons_zero, List.set_cons_succ]
  refine take_on (i := 7) (v := ?_) rfl rfl (by kernel_rfl) (by kernel_rfl) (by kernel_rfl) (fun _ _ _ h => h) rfl ?_ hHeld ?_
  rotate_left
  · (intro wq hSq; have q0 := (World.cell?_of_block (w := W0) (a := ⟨w.heap.size, 0, none⟩) hSq).trans c0; have q1 := (World.cell?_of_block (w := W0) (a := ⟨w.heap.size, 1, none⟩) hSq).trans c1; have q2 := (World.cell?_of_block (w := W0) (a := ⟨w.heap.size, 2, none⟩) hSq).trans c2; have q3 := (World.cell?_of_block (w := W0) (a := ⟨w.heap.size, 3, none⟩) hSq).trans c3; have q4 := (World.cell?_of_block (w := W0) (a := ⟨w.heap.size, 4, none⟩) hSq).trans c4; have q5 := (World.cell?_of_block (w := W0) (a := ⟨w.heap.size, 5, none⟩) hSq).trans c5; go_simp <;> first | with_reducible rfl | rfl)
  simp only [Act.put, List.setIfInBounds_toArray, List.set_cons_zero, List.set_cons_succ]
  refine take_on (i := 8) (v := ?_) rfl rfl (by kernel_rfl) (by kernel_rfl) (by kernel_rfl) (fun _ _ _ h => h) rfl ?_ hHeld ?_
  rotate_left
  · (intro wq hSq; have q0 := (World.cell?_of_block (w := W0) (a := ⟨w.heap.size, 0, none⟩) hSq).trans c0; have q1 := (World.cell?_of_block (w := W0) (a := ⟨w.heap.size, 1, none⟩) hSq).trans c1; have q2 := (World.cell?_of_block (w := W0) (a := ⟨w.heap.size, 2, none⟩) hSq).trans c2; have q3 := (World.cell?_of_block (w := W0) (a := ⟨w.heap.size, 3, none⟩) hSq).trans c3; have q4 := (World.cell?_of_block (w := W0) (a := ⟨w.heap.size, 4, none⟩) hSq).trans c4; have q5 := (World.cell?_of_block (w := W0) (a := ⟨w.heap.size, 5, none⟩) hSq).trans c5; go_simp <;> first | with_reducible rfl | rfl)
  simp only [Act.put, List.setIfInBounds_toArray, List.set_cons_zero, List.set_cons_succ]
  refine take_one (i := 6) rfl (by kernel_rfl) (fun K hK => ?_)
  go_simp
  refine hfr.mono ?_; rintro e y1 ⟨⟨r, rfl, hown⟩, hb1⟩; have hy : BoxW y1 (w.heap.size + 1) zeroVn none 0 := (hb1.block (w.heap.size + 1) (by have := HS0.out; show w.heap.size + 1 < W0.heap.size; omega)).trans HRS.out; obtain ⟨y0_, y1_, y2_, y3_⟩ := hy.cells; have hz := hy.soft; obtain ⟨a9, c9, e9, _⟩ := hown.row; subst e9; replace hown := hide_it hown; replace hb1 := hide_it hb1
  try go_wp2_with fail
  refine hK.out _ _ ?_ (fun hHeld => ?_)
  · exact hb1.out.block w.heap.size (by have := HS0.out; show w.heap.size < W0.heap.size; omega)
  clear hK K
  try simp only [Act.put, List.setIfInBounds_toArray, List.set_cons_zero, List.set_cons_succ]
  refine take_on (i := 9) (v := ?_) rfl rfl (by kernel_rfl) (by kernel_rfl) (by kernel_rfl) (fun _ _ _ h => h) rfl ?_ hHeld ?_
  rotate_left
  · (intro wq hSq; have q0 := (World.cell?_of_block (w := W0) (a := ⟨w.heap.size, 0, none⟩) hSq).trans c0; have q1 := (World.cell?_of_block (w := W0) (a := ⟨w.heap.size, 1, none⟩) hSq).trans c1; have q2 := (World.cell?_of_block (w := W0) (a := ⟨w.heap.size, 2, none⟩) hSq).trans c2; have q3 := (World.cell?_of_block (w := W0) (a := ⟨w.heap.size, 3, none⟩) hSq).trans c3; have q4 := (World.cell?_of_block (w := W0) (a := ⟨w.heap.size, 4, none⟩) hSq).trans c4; have q5 := (World.cell?_of_block (w := W0) (a := ⟨w.heap.size, 5, none⟩) hSq).trans c5; go_simp <;> first | with_reducible rfl | rfl)
  simp only [Act.put, List.setIfInBounds_toArray, List.set_cons_zero, List.set_cons_succ]
  refine take_one (i := 10) rfl (by kernel_rfl) (fun K hK => ?_)
  go_simp
  skip
  try go_wp2_with fail
  refine hK.out _ _ ?_ (fun hHeld => ?_)
  · exact (fillV_keep (by omega) ⟨key, stamp, val, dead⟩ a9 c9).trans hHeld
  clear hK K
  try simp only [Act.put, List.setIfInBounds_toArray, List.set_cons_zero, List.set_cons_succ]
  refine take_on (i := 11) (v := ?_) rfl rfl (by kernel_rfl) (by kernel_rfl) (by kernel_rfl) (fun _ _ _ h => h) rfl ?_ hHeld ?_
  rotate_left
  · (intro wq hSq; have q0 := (World.cell?_of_block (w := W0) (a := ⟨w.heap.size, 0, none⟩) hSq).trans c0; have q1 := (World.cell?_of_block (w := W0) (a := ⟨w.heap.size, 1, none⟩) hSq).trans c1; have q2 := (World.cell?_of_block (w := W0) (a := ⟨w.heap.size, 2, none⟩) hSq).trans c2; have q3 := (World.cell?_of_block (w := W0) (a := ⟨w.heap.size, 3, none⟩) hSq).trans c3; have q4 := (World.cell?_of_block (w := W0) (a := ⟨w.heap.size, 4, none⟩) hSq).trans c4; have q5 := (World.cell?_of_block (w := W0) (a := ⟨w.heap.size, 5, none⟩) hSq).trans c5; go_simp <;> first | with_reducible rfl | rfl)
  simp only [Act.put, List.setIfInBounds_toArray, List.set_cons_zero, List.set_cons_succ]
  refine wpAnyH_done (by kernel_rfl) ?_ _
  have hend := HQ.out y1 a9 c9 hown.out ⟨hb1.out.os, hb1.out.tape, hb1.out.output, hb1.out.size, hb1.out.block⟩
  clear HQ hfr hown hb1 HRS
  go_wp2_with fail
  refine bodyPost_ret (v := .tuple #[.agg #[.string key, .int .i64 stamp, .slice a9 val.length c9, .bool dead], .bool true]) ?_ rfl hend
  simp [results, Try.results10, go_sem, y0_, y1_, y2_, y3_]

set_option maxRecDepth 100000 in
set_option maxHeartbeats 1000000 in
theorem version_2 (x : En) (a : Option Addr) (c : Nat) (w : World) (hkk : x.kind = 2) :
    Calls Try.prog 10 #[valE x a c] w fun e w' => VnTo w ⟨x.key, 0, [], true⟩ true e w' := by
  obtain ⟨kind, stamp, count, key, val, dead⟩ := x
  simp only at hkk
  subst hkk
  go_enter Try.func10, Try.ntmps10
  go_wp2_with fail
  refine bodyPost_ret (v := .tuple #[.agg #[.string key, .int .i64 0, .slice none 0 0, .bool true], .bool true]) ?_ rfl ⟨⟨none, 0, rfl, World.ownsRow_nil _ _ _ _⟩, ?_⟩
  · simp [results, Try.results10, go_sem]
  · exact ((Below.refl _ _).alloc (Nat.le_refl _) _).alloc (by simp) _
set_option maxRecDepth 100000 in
set_option maxHeartbeats 1000000 in
theorem version_0 (x : En) (a : Option Addr) (c : Nat) (w : World) (h1 : (x.kind == 1) = false) (h2 : (x.kind == 2) = false) (h5 : (x.kind == 5) = false) :
    Calls Try.prog 10 #[valE x a c] w fun e w' => VnTo w zeroVn false e w' := by
  obtain ⟨kind, stamp, count, key, val, dead⟩ := x
  simp only at h1 h2 h5
  go_enter Try.func10, Try.ntmps10
  go_wp2_with fail
  refine bodyPost_ret (v := .tuple #[.agg #[.string ⟨#[]⟩, .int .i64 0, .slice none 0 0, .bool false], .bool false]) ?_ rfl ⟨⟨none, 0, rfl, World.ownsRow_nil _ _ _ _⟩, ?_⟩
  · simp [results, Try.results10, go_sem]
  · exact ((Below.refl _ _).alloc (Nat.le_refl _) _).alloc (by simp) _
theorem version_any (x : En) (a : Option Addr) (c : Nat) (w : World) (hr : RowB w a x.val) (hl : x.val.length ≤ 140737488355328) (hnil : a = none → x.val.length = 0 ∧ c = 0) :
    Calls Try.prog 10 #[valE x a c] w fun e w' => VnTo w (versionV x) (isV x) e w' := by
  by_cases h1 : x.kind = 1
  · have e : versionV x = ⟨x.key, 0, x.val, false⟩ := by unfold versionV; rw [if_pos h1]
    have e2 : isV x = true := by unfold isV hk; rw [h1]; rfl
    rw [e, e2]; exact version_1 x a c w h1 hr hl hnil
  by_cases h2 : x.kind = 2
  · have e : versionV x = ⟨x.key, 0, [], true⟩ := by unfold versionV; rw [if_neg h1, if_pos h2]
    have e2 : isV x = true := by unfold isV hk; rw [h2]; rfl
    rw [e, e2]; exact version_2 x a c w h2
  by_cases h5 : x.kind = 5
  · have e : versionV x = ⟨x.key, x.stamp, x.val, x.dead⟩ := by unfold versionV; rw [if_neg h1, if_neg h2, if_pos h5]
    have e2 : isV x = true := by unfold isV hk; rw [h5]; rfl
    rw [e, e2]; exact version_5 x a c w h5 hr hl hnil
  · have e : versionV x = zeroVn := by unfold versionV; rw [if_neg h1, if_neg h2, if_neg h5]
    have b1 : (x.kind == 1) = false := by simpa using h1
    have b2 : (x.kind == 2) = false := by simpa using h2
    have b5 : (x.kind == 5) = false := by simpa using h5
    have e2 : isV x = false := by unfold isV hk; rw [b1, b2, b5]; rfl
    rw [e, e2]; exact version_0 x a c w b1 b2 b5

set_option maxRecDepth 100000 in
set_option maxHeartbeats 1000000 in
theorem rversion_1 (x : En) (a : Option Addr) (c : Nat) (w : World) (hkk : x.kind = 1) (hr : RowB w a x.val) (hl : x.val.length ≤ 140737488355328) (hnil : a = none → x.val.length = 0 ∧ c = 0) :
    Calls Try.prog 15 #[valE x a c] w fun e w' => VnTo w ⟨x.key, 0, x.val, false⟩ true e w' := by
  obtain ⟨W0, hW0⟩ : ∃ W, W = (w.alloc (.cells #[.int .i64 x.kind, .int .i64 x.stamp, .int .i64 x.count, .string x.key, .slice a x.val.length c, .bool x.dead] 24)).alloc (.cells #[.string ⟨#[]⟩, .int .i64 0, .slice none 0 0, .bool false] 30) := ⟨_, rfl⟩
  have hb0 : Below w.heap.size w W0 := by rw [hW0]; exact ((Below.refl _ _).alloc (Nat.le_refl _) _).alloc (by simp) _
  have hs0 : W0.heap.size = w.heap.size + 2 := by rw [hW0]; simp
  have hbx : BoxN W0 w.heap.size x a c := by rw [hW0]; exact (Below.heap_alloc _ _ _ (by simp)).trans (heap_alloc_new w _)
  have hrs : BoxW W0 (w.heap.size + 1) zeroVn none 0 := by
    rw [hW0]
    have e := heap_alloc_new (w.alloc (.cells #[.int .i64 x.kind, .int .i64 x.stamp, .int .i64 x.count, .string x.key, .slice a x.val.length c, .bool x.dead] 24)) (.cells #[.string ⟨#[]⟩, .int .i64 0, .slice none 0 0, .bool false] 30)
    rw [World.size_alloc] at e
    exact e
  have hfr := rown_any a c x.val W0.drew (hr.below (hb0.drew)) hl hnil
  obtain ⟨c0, c1, c2, c3, c4, c5⟩ := hbx.inE
  have HS0 := hide_it hs0
  have HRS := hide_it hrs
  clear hr hnil hl hs0 hrs
  obtain ⟨Q, hQ⟩ : ∃ Q, Q = VnTo w ⟨x.key, 0, x.val, false⟩ true := ⟨_, rfl⟩
  rw [← hQ]
  have HQ : Hid (∀ (y1 : World) (av : Option Addr) (cv : Nat), OwnB y1 W0.heap.size (.slice av x.val.length cv) x.val → Below W0.heap.size W0 y1 → Q (.returned (.tuple #[.agg #[.string x.key, .int .i64 0, .slice av x.val.length cv, .bool false], .bool true])) (fillV y1 (w.heap.size + 1) ⟨x.key, 0, x.val, false⟩ av cv)) := fun y1 av cv h1 h2 => by
    rw [hQ]
    have hs := HS0.out
    exact ⟨⟨av, cv, rfl, (OwnB.fillV h1 (by omega) _ _ _).mono (by omega)⟩, fillV_below (hb0.trans (h2.mono (by omega))) (by omega) _ _ _⟩
  clear hQ hb0 hbx
  obtain ⟨kind, stamp, count, key, val, dead⟩ := x
  simp only at c0 c1 c2 c3 c4 c5 hfr HQ hW0
  simp only at hkk
  subst hkk
  go_enter Try.func15, Try.ntmps15
  go_wp2_with fail
  rw [← hW0]
  clear hW0
  refine wp_region_held_drew (S := (fun w' => w'.heap[w.heap.size]? = W0.heap[w.heap.size]?)) (by kernel_rfl) ?_ (fun hHeld => ?_)
  · rfl
  refine take_on (i := 0) (v := ?_) rfl rfl (by kernel_rfl) (by kernel_rfl) (by kernel_rfl) (fun _ _ _ h => h) rfl ?_ hHeld ?_
  rotate_left
  · (intro wq hSq; have q0 := (World.cell?_of_block (w := W0) (a := ⟨w.heap.size, 0, none⟩) hSq).trans c0; have q1 := (World.cell?_of_block (w := W0) (a := ⟨w.heap.size, 1, none⟩) hSq).trans c1; have q2 := (World.cell?_of_block (w := W0) (a := ⟨w.heap.size, 2, none⟩) hSq).trans c2; have q3 := (World.cell?_of_block (w := W0) (a := ⟨w.heap.size, 3, none⟩) hSq).trans c3; have q4 := (World.cell?_of_block (w := W0) (a := ⟨w.heap.size, 4, none⟩) hSq).trans c4; have q5 := (World.cell?_of_block (w := W0) (a := ⟨w.heap.size, 5, none⟩) hSq).trans c5; go_simp <;> first | with_reducible rfl | rfl)
  simp only [Act.put, List.setIfInBounds_toArray, List.set_cons_zero, List.set_cons_succ]
  refine take_on (i := 1) (v := ?_) rfl rfl (by kernel_rfl) (by kernel_rfl) (by kernel_rfl) (fun _ _ _ h => h) rfl ?_ hHeld ?_
  rotate_left
  · (intro wq hSq; have q0 := (World.cell?_of_block (w := W0) (a := ⟨w.heap.size, 0, none⟩) hSq).trans c0; have q1 := (World.cell?_of_block (w := W0) (a := ⟨w.heap.size, 1, none⟩) hSq).trans c1; have q2 := (World.cell?_of_block (w := W0) (a := ⟨w.heap.size, 2, none⟩) hSq).trans c2; have q3 := (World.cell?_of_block (w := W0) (a := ⟨w.heap.size, 3, none⟩) hSq).trans c3; have q4 := (World.cell?_of_block (w := W0) (a := ⟨w.heap.size, 4, none⟩) hSq).trans c4; have q5 := (World.cell?_of_block (w := W0) (a := ⟨w.heap.size, 5, none⟩) hSq).trans c5; go_simp <;> first | with_reducible rfl | rfl)
  simp only [Act.put, List.setIfInBounds_toArray, List.set_cons_zero, List.set_cons_succ]
  refine take_on (i := 2) (v := ?_) rfl rfl (by kernel_rfl) (by kernel_rfl) (by kernel_rfl) (fun _ _ _ h => h) rfl ?_ hHeld ?_
  rotate_left
  · (intro wq hSq; have q0 := (World.cell?_of_block (w := W0) (a := ⟨w.heap.size, 0, none⟩) hSq).trans c0; have q1 := (World.cell?_of_block (w := W0) (a := ⟨w.heap.size, 1, none⟩) hSq).trans c1; have q2 := (World.cell?_of_block (w := W0) (a := ⟨w.heap.size, 2, none⟩) hSq).trans c2; have q3 := (World.cell?_of_block (w := W0) (a := ⟨w.heap.size, 3, none⟩) hSq).trans c3; have q4 := (World.cell?_of_block (w := W0) (a := ⟨w.heap.size, 4, none⟩) hSq).trans c4; have q5 := (World.cell?_of_block (w := W0) (a := ⟨w.heap.size, 5, none⟩) hSq).trans c5; go_simp <;> first | with_reducible rfl | rfl)
  simp only [Act.put, List.setIfInBounds_toArray, List.set_cons_zero, List.set_cons_succ]
  refine take_on (i := 3) (v := ?_) rfl rfl (by kernel_rfl) (by kernel_rfl) (by kernel_rfl) (fun _ _ _ h => h) rfl ?_ hHeld ?_
  rotate_left
  · (intro wq hSq; have q0 := (World.cell?_of_block (w := W0) (a := ⟨w.heap.size, 0, none⟩) hSq).trans c0; have q1 := (World.cell?_of_block (w := W0) (a := ⟨w.heap.size, 1, none⟩) hSq).trans c1; have q2 := (World.cell?_of_block (w := W0) (a := ⟨w.heap.size, 2, none⟩) hSq).trans c2; have q3 := (World.cell?_of_block (w := W0) (a := ⟨w.heap.size, 3, none⟩) hSq).trans c3; have q4 := (World.cell?_of_block (w := W0) (a := ⟨w.heap.size, 4, none⟩) hSq).trans c4; have q5 := (World.cell?_of_block (w := W0) (a := ⟨w.heap.size, 5, none⟩) hSq).trans c5; go_simp <;> first | with_reducible rfl | rfl)
  simp only [Act.put, List.setIfInBounds_toArray, List.set_cons_zero, List.set_cons_succ]
  refine take_one (i := 4) rfl (by kernel_rfl) (fun K hK => ?_)
  go_simp
  refine hfr.mono ?_; rintro e y1 ⟨⟨r, rfl, hown⟩, hb1⟩; have hy : BoxW y1 (w.heap.size + 1) zeroVn none 0 := (hb1.block (w.heap.size + 1) (by have := HS0.out; show w.heap.size + 1 < W0.heap.size; omega)).trans HRS.out; obtain ⟨y0_, y1_, y2_, y3_⟩ := hy.cells; have hz := hy.soft; obtain ⟨a9, c9, e9, _⟩ := hown.row; subst e9; replace hown := hide_it hown; replace hb1 := hide_it hb1
  try go_wp2_with fail
  refine hK.out _ _ ?_ (fun hHeld => ?_)
  · exact hb1.out.block w.heap.size (by have := HS0.out; show w.heap.size < W0.heap.size; omega)
  clear hK K
  try simp only [Act.put, List.setIfInBounds_toArray, List.set_cons_zero, List.set_cons_succ]
  refine take_on (i := 5) (v := ?_) rfl rfl (by kernel_rfl) (by kernel_rfl) (by kernel_rfl) (fun _ _ _ h => h) rfl ?_ hHeld ?_
  rotate_left
  · (intro wq hSq; have q0 := (World.cell?_of_block (w := W0) (a := ⟨w.heap.size, 0, none⟩) hSq).trans c0; have q1 := (World.cell?_of_block (w := W0) (a := ⟨w.heap.size, 1, none⟩) hSq).trans c1; have q2 := (World.cell?_of_block (w := W0) (a := ⟨w.heap.size, 2, none⟩) hSq).trans c2; have q3 := (World.cell?_of_block (w := W0) (a := ⟨w.heap.size, 3, none⟩) hSq).trans c3; have q4 := (World.cell?_of_block (w := W0) (a := ⟨w.heap.size, 4, none⟩) hSq).trans c4; have q5 := (World.cell?_of_block (w := W0) (a := ⟨w.heap.size, 5, none⟩) hSq).trans c5; go_simp <;> first | with_reducible rfl | rfl)
  simp only [Act.put, List.setIfInBounds_toArray, List.set_cons_zero, List.set_cons_succ]
  refine take_one (i := 6) rfl (by kernel_rfl) (fun K hK => ?_)
  go_simp
  skip
  try go_wp2_with fail
  refine hK.out _ _ ?_ (fun hHeld => ?_)
  · exact (fillV_keep (by omega) ⟨key, 0, val, false⟩ a9 c9).trans hHeld
  clear hK K
  try simp only [Act.put, List.setIfInBounds_toArray, List.set_cons_zero, List.set_cons_succ]
  refine take_on (i := 7) (v := ?_) rfl rfl (by kernel_rfl) (by kernel_rfl) (by kernel_rfl) (fun _ _ _ h => h) rfl ?_ hHeld ?_
  rotate_left
  · (intro wq hSq; have q0 := (World.cell?_of_block (w := W0) (a := ⟨w.heap.size, 0, none⟩) hSq).trans c0; have q1 := (World.cell?_of_block (w := W0) (a := ⟨w.heap.size, 1, none⟩) hSq).trans c1; have q2 := (World.cell?_of_block (w := W0) (a := ⟨w.heap.size, 2, none⟩) hSq).trans c2; have q3 := (World.cell?_of_block (w := W0) (a := ⟨w.heap.size, 3, none⟩) hSq).trans c3; have q4 := (World.cell?_of_block (w := W0) (a := ⟨w.heap.size, 4, none⟩) hSq).trans c4; have q5 := (World.cell?_of_block (w := W0) (a := ⟨w.heap.size, 5, none⟩) hSq).trans c5; go_simp <;> first | with_reducible rfl | rfl)
  simp only [Act.put, List.setIfInBounds_toArray, List.set_cons_zero, List.set_cons_succ]
  refine wpAnyH_done (by kernel_rfl) ?_ _
  have hend := HQ.out y1 a9 c9 hown.out ⟨hb1.out.os, hb1.out.tape, hb1.out.output, hb1.out.size, hb1.out.block⟩
  clear HQ hfr hown hb1 HRS
  go_wp2_with fail
  refine bodyPost_ret (v := .tuple #[.agg #[.string key, .int .i64 0, .slice a9 val.length c9, .bool false], .bool true]) ?_ rfl hend
  simp [results, Try.results15, go_sem, y0_, y1_, y2_, y3_]

set_option maxRecDepth 100000 in
set_option maxHeartbeats 1000000 in
theorem rversion_5 (x : En) (a : Option Addr) (c : Nat) (w : World) (hkk : x.kind = 5) (hr : RowB w a x.val) (hl : x.val.length ≤ 140737488355328) (hnil : a = none → x.val.length = 0 ∧ c = 0) :
    Calls Try.prog 15 #[valE x a c] w fun e w' => VnTo w ⟨x.key, x.stamp, x.val, x.dead⟩ true e w' := by
  obtain ⟨W0, hW0⟩ : ∃ W, W = (w.alloc (.cells #[.int .i64 x.kind, .int .i64 x.stamp, .int .i64 x.count, .string x.key, .slice a x.val.length c, .bool x.dead] 24)).alloc (.cells #[.string ⟨#[]⟩, .int .i64 0, .slice none 0 0, .bool false] 30) := ⟨_, rfl⟩
  have hb0 : Below w.heap.size w W0 := by rw [hW0]; exact ((Below.refl _ _).alloc (Nat.le_refl _) _).alloc (by simp) _
  have hs0 : W0.heap.size = w.heap.size + 2 := by rw [hW0]; simp
  have hbx : BoxN W0 w.heap.size x a c := by rw [hW0]; exact (Below.heap_alloc _ _ _ (by simp)).trans (heap_alloc_new w _)
  have hrs : BoxW W0 (w.heap.size + 1) zeroVn none 0 := by
    rw [hW0]
    have e := heap_alloc_new (w.alloc (.cells #[.int .i64 x.kind, .int .i64 x.stamp, .int .i64 x.count, .string x.key, .slice a x.val.length c, .bool x.dead] 24)) (.cells #[.string ⟨#[]⟩, .int .i64 0, .slice none 0 0, .bool false] 30)
    rw [World.size_alloc] at e
    exact e
  have hfr := rown_any a c x.val W0.drew (hr.below (hb0.drew)) hl hnil
  obtain ⟨c0, c1, c2, c3, c4, c5⟩ := hbx.inE
  have HS0 := hide_it hs0
  have HRS := hide_it hrs
  clear hr hnil hl hs0 hrs
  obtain ⟨Q, hQ⟩ : ∃ Q, Q = VnTo w ⟨x.key, x.stamp, x.val, x.dead⟩ true := ⟨_, rfl⟩
  rw [← hQ]
  have HQ : Hid (∀ (y1 : World) (av : Option Addr) (cv : Nat), OwnB y1 W0.heap.size (.slice av x.val.length cv) x.val → Below W0.heap.size W0 y1 → Q (.returned (.tuple #[.agg #[.string x.key, .int .i64 x.stamp, .slice av x.val.length cv, .bool x.dead], .bool true])) (fillV y1 (w.heap.size + 1) ⟨x.key, x.stamp, x.val, x.dead⟩ av cv)) := fun y1 av cv h1 h2 => by
    rw [hQ]
    have hs := HS0.out
    exact ⟨⟨av, cv, rfl, (OwnB.fillV h1 (by omega) _ _ _).mono (by omega)⟩, fillV_below (hb0.trans (h2.mono (by omega))) (by omega) _ _ _⟩
  clear hQ hb0 hbx
  obtain ⟨kind, stamp, count, key, val, dead⟩ := x
  simp only at c0 c1 c2 c3 c4 c5 hfr HQ hW0
  simp only at hkk
  subst hkk
  go_enter Try.func15, Try.ntmps15
  go_wp2_with fail
  rw [← hW0]
  clear hW0
  refine wp_region_held_drew (S := (fun w' => w'.heap[w.heap.size]? = W0.heap[w.heap.size]?)) (by kernel_rfl) ?_ (fun hHeld => ?_)
  · rfl
  refine take_on (i := 0) (v := ?_) rfl rfl (by kernel_rfl) (by kernel_rfl) (by kernel_rfl) (fun _ _ _ h => h) rfl ?_ hHeld ?_
  rotate_left
  · (intro wq hSq; have q0 := (World.cell?_of_block (w := W0) (a := ⟨w.heap.size, 0, none⟩) hSq).trans c0; have q1 := (World.cell?_of_block (w := W0) (a := ⟨w.heap.size, 1, none⟩) hSq).trans c1; have q2 := (World.cell?_of_block (w := W0) (a := ⟨w.heap.size, 2, none⟩) hSq).trans c2; have q3 := (World.cell?_of_block (w := W0) (a := ⟨w.heap.size, 3, none⟩) hSq).trans c3; have q4 := (World.cell?_of_block (w := W0) (a := ⟨w.heap.size, 4, none⟩) hSq).trans c4; have q5 := (World.cell?_of_block (w := W0) (a := ⟨w.heap.size, 5, none⟩) hSq).trans c5; go_simp <;> first | with_reducible rfl | rfl)
  simp only [Act.put, List.setIfInBounds_toArray, List.set_cons_zero, List.set_cons_succ]
  refine take_on (i := 1) (v := ?_) rfl rfl (by kernel_rfl) (by kernel_rfl) (by kernel_rfl) (fun _ _ _ h => h) rfl ?_ hHeld ?_
  rotate_left
  · (intro wq hSq; have q0 := (World.cell?_of_block (w := W0) (a := ⟨w.heap.size, 0, none⟩) hSq).trans c0; have q1 := (World.cell?_of_block (w := W0) (a := ⟨w.heap.size, 1, none⟩) hSq).trans c1; have q2 := (World.cell?_of_block (w := W0) (a := ⟨w.heap.size, 2, none⟩) hSq).trans c2; have q3 := (World.cell?_of_block (w := W0) (a := ⟨w.heap.size, 3, none⟩) hSq).trans c3; have q4 := (World.cell?_of_block (w := W0) (a := ⟨w.heap.size, 4, none⟩) hSq).trans c4; have q5 := (World.cell?_of_block (w := W0) (a := ⟨w.heap.size, 5, none⟩) hSq).trans c5; go_simp <;> first | with_reducible rfl | rfl)
  simp only [Act.put, List.setIfInBounds_toArray, List.set_cons_zero, List.set_cons_succ]
  refine take_on (i := 2) (v := ?_) rfl rfl (by kernel_rfl) (by kernel_rfl) (by kernel_rfl) (fun _ _ _ h => h) rfl ?_ hHeld ?_
  rotate_left
  · (intro wq hSq; have q0 := (World.cell?_of_block (w := W0) (a := ⟨w.heap.size, 0, none⟩) hSq).trans c0; have q1 := (World.cell?_of_block (w := W0) (a := ⟨w.heap.size, 1, none⟩) hSq).trans c1; have q2 := (World.cell?_of_block (w := W0) (a := ⟨w.heap.size, 2, none⟩) hSq).trans c2; have q3 := (World.cell?_of_block (w := W0) (a := ⟨w.heap.size, 3, none⟩) hSq).trans c3; have q4 := (World.cell?_of_block (w := W0) (a := ⟨w.heap.size, 4, none⟩) hSq).trans c4; have q5 := (World.cell?_of_block (w := W0) (a := ⟨w.heap.size, 5, none⟩) hSq).trans c5; go_simp <;> first | with_reducible rfl | rfl)
  simp only [Act.put, List.setIfInBounds_toArray, List.set_cons_zero, List.set_cons_succ]
  refine take_on (i := 3) (v := ?_) rfl rfl (by kernel_rfl) (by kernel_rfl) (by kernel_rfl) (fun _ _ _ h => h) rfl ?_ hHeld ?_
  rotate_left
  · (intro wq hSq; have q0 := (World.cell?_of_block (w := W0) (a := ⟨w.heap.size, 0, none⟩) hSq).trans c0; have q1 := (World.cell?_of_block (w := W0) (a := ⟨w.heap.size, 1, none⟩) hSq).trans c1; have q2 := (World.cell?_of_block (w := W0) (a := ⟨w.heap.size, 2, none⟩) hSq).trans c2; have q3 := (World.cell?_of_block (w := W0) (a := ⟨w.heap.size, 3, none⟩) hSq).trans c3; have q4 := (World.cell?_of_block (w := W0) (a := ⟨w.heap.size, 4, none⟩) hSq).trans c4; have q5 := (World.cell?_of_block (w := W0) (a := ⟨w.heap.size, 5, none⟩) hSq).trans c5; go_simp <;> first | with_reducible rfl | rfl)
  simp only [Act.put, List.setIfInBounds_toArray, List.set_cons_zero, List.set_cons_succ]
  refine take_on (i := 4) (v := ?_) rfl rfl (by kernel_rfl) (by kernel_rfl) (by kernel_rfl) (fun _ _ _ h => h) rfl ?_ hHeld ?_
  rotate_left
  · (intro wq hSq; have q0 := (World.cell?_of_block (w := W0) (a := ⟨w.heap.size, 0, none⟩) hSq).trans c0; have q1 := (World.cell?_of_block (w := W0) (a := ⟨w.heap.size, 1, none⟩) hSq).trans c1; have q2 := (World.cell?_of_block (w := W0) (a := ⟨w.heap.size, 2, none⟩) hSq).trans c2; have q3 := (World.cell?_of_block (w := W0) (a := ⟨w.heap.size, 3, none⟩) hSq).trans c3; have q4 := (World.cell?_of_block (w := W0) (a := ⟨w.heap.size, 4, none⟩) hSq).trans c4; have q5 := (World.cell?_of_block (w := W0) (a := ⟨w.heap.size, 5, none⟩) hSq).trans c5; go_simp <;> first | with_reducible rfl | rfl)
  simp only [Act.put, List.setIfInBounds_toArray, List.set_cons_zero, List.set_cons_succ]
  refine take_on (i := 5) (v := ?_) rfl rfl (by kernel_rfl) (by kernel_rfl) (by kernel_rfl) (fun _ _ _ h => h) rfl ?_ hHeld ?_
  rotate_left
  · (intro wq hSq; have q0 := (World.cell?_of_block (w := W0) (a := ⟨w.heap.size, 0, none⟩) hSq).trans c0; have q1 := (World.cell?_of_block (w := W0) (a := ⟨w.heap.size, 1, none⟩) hSq).trans c1; have q2 := (World.cell?_of_block (w := W0) (a := ⟨w.heap.size, 2, none⟩) hSq).trans c2; have q3 := (World.cell?_of_block (w := W0) (a := ⟨w.heap.size, 3, none⟩) hSq).trans c3; have q4 := (World.cell?_of_block (w := W0) (a := ⟨w.heap.size, 4, none⟩) hSq).trans c4; have q5 := (World.cell?_of_block (w := W0) (a := ⟨w.heap.size, 5, none⟩) hSq).trans c5; go_simp <;> first | with_reducible rfl | rfl)
  simp only [Act.put, List.setIfInBounds_toArray, List.set_cons_zero, List.set_cons_succ]
  refine take_on (i := 7) (v := ?_) rfl rfl (by kernel_rfl) (by kernel_rfl) (by kernel_rfl) (fun _ _ _ h => h) rfl ?_ hHeld ?_
  rotate_left
  · (intro wq hSq; have q0 := (World.cell?_of_block (w := W0) (a := ⟨w.heap.size, 0, none⟩) hSq).trans c0; have q1 := (World.cell?_of_block (w := W0) (a := ⟨w.heap.size, 1, none⟩) hSq).trans c1; have q2 := (World.cell?_of_block (w := W0) (a := ⟨w.heap.size, 2, none⟩) hSq).trans c2; have q3 := (World.cell?_of_block (w := W0) (a := ⟨w.heap.size, 3, none⟩) hSq).trans c3; have q4 := (World.cell?_of_block (w := W0) (a := ⟨w.heap.size, 4, none⟩) hSq).trans c4; have q5 := (World.cell?_of_block (w := W0) (a := ⟨w.heap.size, 5, none⟩) hSq).trans c5; go_simp <;> first | with_reducible rfl | rfl)
  simp only [Act.put, List.setIfInBounds_toArray, List.set_cons_zero, List.set_cons_succ]
  refine take_on (i := 8) (v := ?_) rfl rfl (by kernel_rfl) (by kernel_rfl) (by kernel_rfl) (fun _ _ _ h => h) rfl ?_ hHeld ?_
  rotate_left
  · (intro wq hSq; have q0 := (World.cell?_of_block (w := W0) (a := ⟨w.heap.size, 0, none⟩) hSq).trans c0; have q1 := (World.cell?_of_block (w := W0) (a := ⟨w.heap.size, 1, none⟩) hSq).trans c1; have q2 := (World.cell?_of_block (w := W0) (a := ⟨w.heap.size, 2, none⟩) hSq).trans c2; have q3 := (World.cell?_of_block (w := W0) (a := ⟨w.heap.size, 3, none⟩) hSq).trans c3; have q4 := (World.cell?_of_block (w := W0) (a := ⟨w.heap.size, 4, none⟩) hSq).trans c4; have q5 := (World.cell?_of_block (w := W0) (a := ⟨w.heap.size, 5, none⟩) hSq).trans c5; go_simp <;> first | with_reducible rfl | rfl)
  simp only [Act.put, List.setIfInBounds_toArray, List.set_cons_zero, List.set_cons_succ]
  refine take_one (i := 6) rfl (by kernel_rfl) (fun K hK => ?_)
  go_simp
  refine hfr.mono ?_; rintro e y1 ⟨⟨r, rfl, hown⟩, hb1⟩; have hy : BoxW y1 (w.heap.size + 1) zeroVn none 0 := (hb1.block (w.heap.size + 1) (by have := HS0.out; show w.heap.size + 1 < W0.heap.size; omega)).trans HRS.out; obtain ⟨y0_, y1_, y2_, y3_⟩ := hy.cells; have hz := hy.soft; obtain ⟨a9, c9, e9, _⟩ := hown.row; subst e9; replace hown := hide_it hown; replace hb1 := hide_it hb1
  try go_wp2_with fail
  refine hK.out _ _ ?_ (fun hHeld => ?_)
  · exact hb1.out.block w.heap.size (by have := HS0.out; show w.heap.size < W0.heap.size; omega)
  clear hK K
  try simp only [Act.put, List.setIfInBounds_toArray, List.set_cons_zero, List.set_cons_succ]
  refine take_on (i := 9) (v := ?_) rfl rfl (by kernel_rfl) (by kernel_rfl) (by kernel_rfl) (fun _ _ _ h => h) rfl ?_ hHeld ?_
  rotate_left
  · (intro wq hSq; have q0 := (World.cell?_of_block (w := W0) (a := ⟨w.heap.size, 0, none⟩) hSq).trans c0; have q1 := (World.cell?_of_block (w := W0) (a := ⟨w.heap.size, 1, none⟩) hSq).trans c1; have q2 := (World.cell?_of_block (w := W0) (a := ⟨w.heap.size, 2, none⟩) hSq).trans c2; have q3 := (World.cell?_of_block (w := W0) (a := ⟨w.heap.size, 3, none⟩) hSq).trans c3; have q4 := (World.cell?_of_block (w := W0) (a := ⟨w.heap.size, 4, none⟩) hSq).trans c4; have q5 := (World.cell?_of_block (w := W0) (a := ⟨w.heap.size, 5, none⟩) hSq).trans c5; go_simp <;> first | with_reducible rfl | rfl)
  simp only [Act.put, List.setIfInBounds_toArray, List.set_cons_zero, List.set_cons_succ]
  refine take_one (i := 10) rfl (by kernel_rfl) (fun K hK => ?_)
  go_simp
  skip
  try go_wp2_with fail
  refine hK.out _ _ ?_ (fun hHeld => ?_)
  · exact (fillV_keep (by omega) ⟨key, stamp, val, dead⟩ a9 c9).trans hHeld
  clear hK K
  try simp only [Act.put, List.setIfInBounds_toArray, List.set_cons_zero, List.set_cons_succ]
  refine take_on (i := 11) (v := ?_) rfl rfl (by kernel_rfl) (by kernel_rfl) (by kernel_rfl) (fun _ _ _ h => h) rfl ?_ hHeld ?_
  rotate_left
  · (intro wq hSq; have q0 := (World.cell?_of_block (w := W0) (a := ⟨w.heap.size, 0, none⟩) hSq).trans c0; have q1 := (World.cell?_of_block (w := W0) (a := ⟨w.heap.size, 1, none⟩) hSq).trans c1; have q2 := (World.cell?_of_block (w := W0) (a := ⟨w.heap.size, 2, none⟩) hSq).trans c2; have q3 := (World.cell?_of_block (w := W0) (a := ⟨w.heap.size, 3, none⟩) hSq).trans c3; have q4 := (World.cell?_of_block (w := W0) (a := ⟨w.heap.size, 4, none⟩) hSq).trans c4; have q5 := (World.cell?_of_block (w := W0) (a := ⟨w.heap.size, 5, none⟩) hSq).trans c5; go_simp <;> first | with_reducible rfl | rfl)
  simp only [Act.put, List.setIfInBounds_toArray, List.set_cons_zero, List.set_cons_succ]
  refine wpAnyH_done (by kernel_rfl) ?_ _
  have hend := HQ.out y1 a9 c9 hown.out ⟨hb1.out.os, hb1.out.tape, hb1.out.output, hb1.out.size, hb1.out.block⟩
  clear HQ hfr hown hb1 HRS
  go_wp2_with fail
  refine bodyPost_ret (v := .tuple #[.agg #[.string key, .int .i64 stamp, .slice a9 val.length c9, .bool dead], .bool true]) ?_ rfl hend
  simp [results, Try.results15, go_sem, y0_, y1_, y2_, y3_]

set_option maxRecDepth 100000 in
set_option maxHeartbeats 1000000 in
theorem rversion_2 (x : En) (a : Option Addr) (c : Nat) (w : World) (hkk : x.kind = 2) :
    Calls Try.prog 15 #[valE x a c] w fun e w' => VnTo w ⟨x.key, 0, [], true⟩ true e w' := by
  obtain ⟨kind, stamp, count, key, val, dead⟩ := x
  simp only at hkk
  subst hkk
  go_enter Try.func15, Try.ntmps15
  go_wp2_with fail
  refine bodyPost_ret (v := .tuple #[.agg #[.string key, .int .i64 0, .slice none 0 0, .bool true], .bool true]) ?_ rfl ⟨⟨none, 0, rfl, World.ownsRow_nil _ _ _ _⟩, ?_⟩
  · simp [results, Try.results15, go_sem]
  · exact ((Below.refl _ _).alloc (Nat.le_refl _) _).alloc (by simp) _
set_option maxRecDepth 100000 in
set_option maxHeartbeats 1000000 in
theorem rversion_0 (x : En) (a : Option Addr) (c : Nat) (w : World) (h1 : (x.kind == 1) = false) (h2 : (x.kind == 2) = false) (h5 : (x.kind == 5) = false) :
    Calls Try.prog 15 #[valE x a c] w fun e w' => VnTo w zeroVn false e w' := by
  obtain ⟨kind, stamp, count, key, val, dead⟩ := x
  simp only at h1 h2 h5
  go_enter Try.func15, Try.ntmps15
  go_wp2_with fail
  refine bodyPost_ret (v := .tuple #[.agg #[.string ⟨#[]⟩, .int .i64 0, .slice none 0 0, .bool false], .bool false]) ?_ rfl ⟨⟨none, 0, rfl, World.ownsRow_nil _ _ _ _⟩, ?_⟩
  · simp [results, Try.results15, go_sem]
  · exact ((Below.refl _ _).alloc (Nat.le_refl _) _).alloc (by simp) _
theorem rversion_any (x : En) (a : Option Addr) (c : Nat) (w : World) (hr : RowB w a x.val) (hl : x.val.length ≤ 140737488355328) (hnil : a = none → x.val.length = 0 ∧ c = 0) :
    Calls Try.prog 15 #[valE x a c] w fun e w' => VnTo w (versionV x) (isV x) e w' := by
  by_cases h1 : x.kind = 1
  · have e : versionV x = ⟨x.key, 0, x.val, false⟩ := by unfold versionV; rw [if_pos h1]
    have e2 : isV x = true := by unfold isV hk; rw [h1]; rfl
    rw [e, e2]; exact rversion_1 x a c w h1 hr hl hnil
  by_cases h2 : x.kind = 2
  · have e : versionV x = ⟨x.key, 0, [], true⟩ := by unfold versionV; rw [if_neg h1, if_pos h2]
    have e2 : isV x = true := by unfold isV hk; rw [h2]; rfl
    rw [e, e2]; exact rversion_2 x a c w h2
  by_cases h5 : x.kind = 5
  · have e : versionV x = ⟨x.key, x.stamp, x.val, x.dead⟩ := by unfold versionV; rw [if_neg h1, if_neg h2, if_pos h5]
    have e2 : isV x = true := by unfold isV hk; rw [h5]; rfl
    rw [e, e2]; exact rversion_5 x a c w h5 hr hl hnil
  · have e : versionV x = zeroVn := by unfold versionV; rw [if_neg h1, if_neg h2, if_neg h5]
    have b1 : (x.kind == 1) = false := by simpa using h1
    have b2 : (x.kind == 2) = false := by simpa using h2
    have b5 : (x.kind == 5) = false := by simpa using h5
    have e2 : isV x = false := by unfold isV hk; rw [b1, b2, b5]; rfl
    rw [e, e2]; exact rversion_0 x a c w b1 b2 b5

end Go.Proofs.Ytlhlpofmeeiffab
