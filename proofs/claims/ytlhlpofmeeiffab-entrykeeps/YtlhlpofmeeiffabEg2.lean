/- Versions and entries: the program's OfWrite, OfVersion, Version, and the document's. -/
import Derived.Test.YtlhlpofmeeiffabEg1
import Derived.Test.YtlhlpofmeeiffabReg
import Derived.Test.YtlhlpofmeeiffabReg2
namespace Go.Proofs.Ytlhlpofmeeiffab
open Go.RowKit

set_option maxRecDepth 100000 in
set_option maxHeartbeats 400000 in
theorem rown_any (a : Option Addr) (cap : Nat) (zs : List Nat) (w : World) (hr : RowB w a zs) (hl : zs.length ≤ 140737488355328) (hnil : a = none → zs.length = 0 ∧ cap = 0) :
    Calls Try.prog 36 #[.slice a zs.length cap] w fun e w' => (∃ v, e = .returned v ∧ OwnB w' w.heap.size v zs) ∧ Below w.heap.size w w' := by
  go_enter Try.func36, Try.ntmps36
  go_wp2_with (at_builtin; refine wpList_append_row _ rfl _ _ rfl w.heap.size _ [] rfl (World.ownsRow_nil _ _ _ _) a cap zs rfl hr hnil (by simp; omega) (Nat.le_refl _) ?_; intro vc w0 hown0 hg0 hat0)
  go_ret
  exact ⟨⟨_, rfl, by rw [List.nil_append] at hown0; exact hown0⟩, (Below.refl _ _).grown hg0 (Nat.le_refl _) (fun j e => by cases e)⟩

theorem BoxN.fill {w : World} {R : Nat} {z : En} {a0 : Option Addr} {c0 : Nat} (h : BoxN w R z a0 c0) (y : En) (a : Option Addr) (c : Nat) : BoxN (fillE w R y a c) R y a c := by
  have h1 := heap_setCell_same _ R 0 _ _ (.int .i64 y.kind) h
  have h2 := heap_setCell_same _ R 1 _ _ (.int .i64 y.stamp) h1
  have h3 := heap_setCell_same _ R 2 _ _ (.int .i64 y.count) h2
  have h4 := heap_setCell_same _ R 3 _ _ (.string y.key) h3
  have h5 := heap_setCell_same _ R 4 _ _ (.slice a y.val.length c) h4
  have h6 := heap_setCell_same _ R 5 _ _ (.bool y.dead) h5
  unfold BoxN
  rw [h6]; rfl
theorem fill_below {B R : Nat} {v w : World} (h : Below B v w) (hR : B ≤ R) (y : En) (a : Option Addr) (c : Nat) : Below B v (fillE w R y a c) :=
  (((((h.setCell hR _).setCell hR _).setCell hR _).setCell hR _).setCell hR _).setCell hR _
theorem fill_keep {w : World} {G R : Nat} (hne : G ≠ R) (y : En) (a : Option Addr) (c : Nat) : (fillE w R y a c).heap[G]? = w.heap[G]? := by
  have f : ∀ (w : World) (j : Nat) (v : Value), (w.setCell ⟨R, j, none⟩ v).heap[G]? = w.heap[G]? := fun w j v => Below.heap_setCell w ⟨R, j, none⟩ v G hne
  rw [f, f, f, f, f, f]

/-- The block holds just a version. -/
def BoxW (w : World) (E : Nat) (x : Vn) (a : Option Addr) (c : Nat) : Prop := w.heap[E]? = some (.cells #[.string x.key, .int .i64 x.stamp, .slice a x.val.length c, .bool x.dead] 30 (0, 0))
theorem BoxW.cells {w : World} {E : Nat} {x : Vn} {a : Option Addr} {c : Nat} (h : BoxW w E x a c) : w.cell? ⟨E, 0, none⟩ = some (.string x.key) ∧ w.cell? ⟨E, 1, none⟩ = some (.int .i64 x.stamp) ∧ w.cell? ⟨E, 2, none⟩ = some (.slice a x.val.length c) ∧ w.cell? ⟨E, 3, none⟩ = some (.bool x.dead) := by
  refine ⟨?_, ?_, ?_, ?_⟩ <;> (rw [cell_of_row _ _ _ _ _ _ h]; rfl)
theorem BoxW.soft {w : World} {E : Nat} {x : Vn} {a : Option Addr} {c : Nat} (h : BoxW w E x a c) (i : Nat) : w.frozen? ⟨E, i, none⟩ = false := frozen_of_row w E i _ _ h
def zeroVn : Vn := ⟨.empty, 0, [], false⟩
abbrev fillV (w : World) (R : Nat) (y : Vn) (a : Option Addr) (c : Nat) : World :=
  (((w.setCell ⟨R, 0, none⟩ (.string y.key)).setCell ⟨R, 1, none⟩ (.int .i64 y.stamp)).setCell ⟨R, 2, none⟩ (.slice a y.val.length c)).setCell ⟨R, 3, none⟩ (.bool y.dead)
theorem BoxW.fill {w : World} {R : Nat} {z : Vn} {a0 : Option Addr} {c0 : Nat} (h : BoxW w R z a0 c0) (y : Vn) (a : Option Addr) (c : Nat) : BoxW (fillV w R y a c) R y a c := by
  have h1 := heap_setCell_same _ R 0 _ _ (.string y.key) h
  have h2 := heap_setCell_same _ R 1 _ _ (.int .i64 y.stamp) h1
  have h3 := heap_setCell_same _ R 2 _ _ (.slice a y.val.length c) h2
  have h4 := heap_setCell_same _ R 3 _ _ (.bool y.dead) h3
  unfold BoxW
  rw [h4]; rfl
theorem fillV_below {B R : Nat} {v w : World} (h : Below B v w) (hR : B ≤ R) (y : Vn) (a : Option Addr) (c : Nat) : Below B v (fillV w R y a c) :=
  (((h.setCell hR _).setCell hR _).setCell hR _).setCell hR _
theorem fillV_keep {w : World} {G R : Nat} (hne : G ≠ R) (y : Vn) (a : Option Addr) (c : Nat) : (fillV w R y a c).heap[G]? = w.heap[G]? := by
  have f : ∀ (w : World) (j : Nat) (v : Value), (w.setCell ⟨R, j, none⟩ v).heap[G]? = w.heap[G]? := fun w j v => Below.heap_setCell w ⟨R, j, none⟩ v G hne
  rw [f, f, f, f]
theorem OwnB.fillV {w : World} {base R : Nat} {v : Value} {zs : List Nat} (h : OwnB w base v zs) (hR : R < base) (y : Vn) (a : Option Addr) (c : Nat) : OwnB (fillV w R y a c) base v zs :=
  (((h.set_old hR _ _).set_old hR _ _).set_old hR _ _).set_old hR _ _

/-- An entry that a call makes: its value lies in new memory. -/
def EnTo (w : World) (y : En) (e : Ending) (w' : World) : Prop := (∃ a c, e = .returned (valE y a c) ∧ OwnB w' w.heap.size (.slice a y.val.length c) y.val) ∧ Below w.heap.size w w'
/-- A version that a call makes, and whether there is one. -/
def VnTo (w : World) (y : Vn) (b : Bool) (e : Ending) (w' : World) : Prop := (∃ a c, e = .returned (.tuple #[valV y a c, .bool b]) ∧ OwnB w' w.heap.size (.slice a y.val.length c) y.val) ∧ Below w.heap.size w w'
def ofVersionE (v : Vn) : En := ⟨5, v.stamp, 0, v.key, v.val, v.dead⟩
def ofWriteE (v : Vn) : En := if v.dead then ⟨2, 0, 0, v.key, [], false⟩ else ⟨1, 0, 0, v.key, v.val, false⟩

set_option maxRecDepth 100000 in
set_option maxHeartbeats 1000000 in
theorem ofVersion_any (x : Vn) (a : Option Addr) (c : Nat) (w : World) (hr : RowB w a x.val) (hl : x.val.length ≤ 140737488355328) (hnil : a = none → x.val.length = 0 ∧ c = 0) :
    Calls Try.prog 9 #[valV x a c] w fun e w' => EnTo w (ofVersionE x) e w' := by
  obtain ⟨W0, hW0⟩ : ∃ W, W = (w.alloc (.cells #[.string x.key, .int .i64 x.stamp, .slice a x.val.length c, .bool x.dead] 30)).alloc (.cells #[.int .i64 0, .int .i64 0, .int .i64 0, .string ⟨#[]⟩, .slice none 0 0, .bool false] 24) := ⟨_, rfl⟩
  have hb0 : Below w.heap.size w W0 := by rw [hW0]; exact ((Below.refl _ _).alloc (Nat.le_refl _) _).alloc (by simp) _
  have hs0 : W0.heap.size = w.heap.size + 2 := by rw [hW0]; simp
  have hbx : BoxW W0 w.heap.size x a c := by rw [hW0]; exact (Below.heap_alloc _ _ _ (by simp)).trans (heap_alloc_new w _)
  have hrs : BoxN W0 (w.heap.size + 1) zeroEn none 0 := by
    rw [hW0]
    have e := heap_alloc_new (w.alloc (.cells #[.string x.key, .int .i64 x.stamp, .slice a x.val.length c, .bool x.dead] 30)) (.cells #[.int .i64 0, .int .i64 0, .int .i64 0, .string ⟨#[]⟩, .slice none 0 0, .bool false] 24)
    rw [World.size_alloc] at e
    exact e
  have hfr := clone_any a c x.val W0.drew (hr.below (hb0.drew)) hl hnil
  obtain ⟨c0, c1, c2, c3⟩ := hbx.cells
  have HS0 := hide_it hs0
  have HRS := hide_it hrs
  clear hr hnil hl hs0 hrs
  obtain ⟨Q, hQ⟩ : ∃ Q, Q = EnTo w (ofVersionE x) := ⟨_, rfl⟩
  rw [← hQ]
  have HQ : Hid (∀ (y1 : World) (av : Option Addr) (cv : Nat), OwnB y1 W0.heap.size (.slice av x.val.length cv) x.val → Below W0.heap.size W0 y1 → Q (.returned (.agg #[.int .i64 5, .int .i64 x.stamp, .int .i64 0, .string x.key, .slice av x.val.length cv, .bool x.dead])) (fillE y1 (w.heap.size + 1) (ofVersionE x) av cv)) := fun y1 av cv h1 h2 => by
    rw [hQ]
    have hs := HS0.out
    exact ⟨⟨av, cv, rfl, (OwnB.fill h1 (by omega) _ _ _).mono (by omega)⟩, fill_below (hb0.trans (h2.mono (by omega))) (by omega) _ _ _⟩
  clear hQ hb0 hbx
  obtain ⟨key, stamp, val, dead⟩ := x
  simp only at c0 c1 c2 c3 hfr HQ hW0
  go_enter Try.func9, Try.ntmps9
  go_wp2_with fail
  rw [← hW0]
  clear hW0
  refine wp_region_held_drew (S := (fun w' => w'.heap[w.heap.size]? = W0.heap[w.heap.size]?)) (by kernel_rfl) ?_ (fun hHeld => ?_)
  · rfl
  refine take_on (i := 0) (v := ?_) rfl rfl (by kernel_rfl) (by kernel_rfl) (by kernel_rfl) (fun _ _ _ h => h) rfl ?_ hHeld ?_
  rotate_left
  · (intro wq hSq; have q0 := (World.cell?_of_block (w := W0) (a := ⟨w.heap.size, 0, none⟩) hSq).trans c0; have q1 := (World.cell?_of_block (w := W0) (a := ⟨w.heap.size, 1, none⟩) hSq).trans c1; have q2 := (World.cell?_of_block (w := W0) (a := ⟨w.heap.size, 2, none⟩) hSq).trans c2; have q3 := (World.cell?_of_block (w := W0) (a := ⟨w.heap.size, 3, none⟩) hSq).trans c3; go_simp <;> first | with_reducible rfl | rfl)
  simp only [Act.put, List.setIfInBounds_toArray, List.set_cons_zero, List.set_cons_succ]
  refine take_on (i := 1) (v := ?_) rfl rfl (by kernel_rfl) (by kernel_rfl) (by kernel_rfl) (fun _ _ _ h => h) rfl ?_ hHeld ?_
  rotate_left
  · (intro wq hSq; have q0 := (World.cell?_of_block (w := W0) (a := ⟨w.heap.size, 0, none⟩) hSq).trans c0; have q1 := (World.cell?_of_block (w := W0) (a := ⟨w.heap.size, 1, none⟩) hSq).trans c1; have q2 := (World.cell?_of_block (w := W0) (a := ⟨w.heap.size, 2, none⟩) hSq).trans c2; have q3 := (World.cell?_of_block (w := W0) (a := ⟨w.heap.size, 3, none⟩) hSq).trans c3; go_simp <;> first | with_reducible rfl | rfl)
  simp only [Act.put, List.setIfInBounds_toArray, List.set_cons_zero, List.set_cons_succ]
  refine take_on (i := 2) (v := ?_) rfl rfl (by kernel_rfl) (by kernel_rfl) (by kernel_rfl) (fun _ _ _ h => h) rfl ?_ hHeld ?_
  rotate_left
  · (intro wq hSq; have q0 := (World.cell?_of_block (w := W0) (a := ⟨w.heap.size, 0, none⟩) hSq).trans c0; have q1 := (World.cell?_of_block (w := W0) (a := ⟨w.heap.size, 1, none⟩) hSq).trans c1; have q2 := (World.cell?_of_block (w := W0) (a := ⟨w.heap.size, 2, none⟩) hSq).trans c2; have q3 := (World.cell?_of_block (w := W0) (a := ⟨w.heap.size, 3, none⟩) hSq).trans c3; go_simp <;> first | with_reducible rfl | rfl)
  simp only [Act.put, List.setIfInBounds_toArray, List.set_cons_zero, List.set_cons_succ]
  refine take_on (i := 3) (v := ?_) rfl rfl (by kernel_rfl) (by kernel_rfl) (by kernel_rfl) (fun _ _ _ h => h) rfl ?_ hHeld ?_
  rotate_left
  · (intro wq hSq; have q0 := (World.cell?_of_block (w := W0) (a := ⟨w.heap.size, 0, none⟩) hSq).trans c0; have q1 := (World.cell?_of_block (w := W0) (a := ⟨w.heap.size, 1, none⟩) hSq).trans c1; have q2 := (World.cell?_of_block (w := W0) (a := ⟨w.heap.size, 2, none⟩) hSq).trans c2; have q3 := (World.cell?_of_block (w := W0) (a := ⟨w.heap.size, 3, none⟩) hSq).trans c3; go_simp <;> first | with_reducible rfl | rfl)
  simp only [Act.put, List.setIfInBounds_toArray, List.set_cons_zero, List.set_cons_succ]
  refine take_on (i := 4) (v := ?_) rfl rfl (by kernel_rfl) (by kernel_rfl) (by kernel_rfl) (fun _ _ _ h => h) rfl ?_ hHeld ?_
  rotate_left
  · (intro wq hSq; have q0 := (World.cell?_of_block (w := W0) (a := ⟨w.heap.size, 0, none⟩) hSq).trans c0; have q1 := (World.cell?_of_block (w := W0) (a := ⟨w.heap.size, 1, none⟩) hSq).trans c1; have q2 := (World.cell?_of_block (w := W0) (a := ⟨w.heap.size, 2, none⟩) hSq).trans c2; have q3 := (World.cell?_of_block (w := W0) (a := ⟨w.heap.size, 3, none⟩) hSq).trans c3; go_simp <;> first | with_reducible rfl | rfl)
  simp only [Act.put, List.setIfInBounds_toArray, List.set_cons_zero, List.set_cons_succ]
  refine take_on (i := 5) (v := ?_) rfl rfl (by kernel_rfl) (by kernel_rfl) (by kernel_rfl) (fun _ _ _ h => h) rfl ?_ hHeld ?_
  rotate_left
  · (intro wq hSq; have q0 := (World.cell?_of_block (w := W0) (a := ⟨w.heap.size, 0, none⟩) hSq).trans c0; have q1 := (World.cell?_of_block (w := W0) (a := ⟨w.heap.size, 1, none⟩) hSq).trans c1; have q2 := (World.cell?_of_block (w := W0) (a := ⟨w.heap.size, 2, none⟩) hSq).trans c2; have q3 := (World.cell?_of_block (w := W0) (a := ⟨w.heap.size, 3, none⟩) hSq).trans c3; go_simp <;> first | with_reducible rfl | rfl)
  simp only [Act.put, List.setIfInBounds_toArray, List.set_cons_zero, List.set_cons_succ]
  refine take_on (i := 6) (v := ?_) rfl rfl (by kernel_rfl) (by kernel_rfl) (by kernel_rfl) (fun _ _ _ h => h) rfl ?_ hHeld ?_
  rotate_left
  · (intro wq hSq; have q0 := (World.cell?_of_block (w := W0) (a := ⟨w.heap.size, 0, none⟩) hSq).trans c0; have q1 := (World.cell?_of_block (w := W0) (a := ⟨w.heap.size, 1, none⟩) hSq).trans c1; have q2 := (World.cell?_of_block (w := W0) (a := ⟨w.heap.size, 2, none⟩) hSq).trans c2; have q3 := (World.cell?_of_block (w := W0) (a := ⟨w.heap.size, 3, none⟩) hSq).trans c3; go_simp <;> first | with_reducible rfl | rfl)
  simp only [Act.put, List.setIfInBounds_toArray, List.set_cons_zero, List.set_cons_succ]
  refine take_on (i := 7) (v := ?_) rfl rfl (by kernel_rfl) (by kernel_rfl) (by kernel_rfl) (fun _ _ _ h => h) rfl ?_ hHeld ?_
  rotate_left
  · (intro wq hSq; have q0 := (World.cell?_of_block (w := W0) (a := ⟨w.heap.size, 0, none⟩) hSq).trans c0; have q1 := (World.cell?_of_block (w := W0) (a := ⟨w.heap.size, 1, none⟩) hSq).trans c1; have q2 := (World.cell?_of_block (w := W0) (a := ⟨w.heap.size, 2, none⟩) hSq).trans c2; have q3 := (World.cell?_of_block (w := W0) (a := ⟨w.heap.size, 3, none⟩) hSq).trans c3; go_simp <;> first | with_reducible rfl | rfl)
  simp only [Act.put, List.setIfInBounds_toArray, List.set_cons_zero, List.set_cons_succ]
  refine take_one (i := 8) rfl (by kernel_rfl) (fun K hK => ?_)
  go_simp
  refine hfr.mono ?_; rintro e y1 ⟨⟨r, rfl, hown⟩, hb1⟩; have hy : BoxN y1 (w.heap.size + 1) zeroEn none 0 := (hb1.block (w.heap.size + 1) (by have := HS0.out; show w.heap.size + 1 < W0.heap.size; omega)).trans HRS.out; obtain ⟨y0_, y1_, y2_, y3_, y4_, y5_⟩ := hy.inE; have hz := hy.soft; obtain ⟨a9, c9, e9, _⟩ := hown.row; subst e9; replace hown := hide_it hown; replace hb1 := hide_it hb1
  try go_wp2_with fail
  refine hK.out _ _ ?_ (fun hHeld => ?_)
  · exact hb1.out.block w.heap.size (by have := HS0.out; show w.heap.size < W0.heap.size; omega)
  clear hK K
  try simp only [Act.put, List.setIfInBounds_toArray, List.set_cons_zero, List.set_cons_succ]
  refine take_on (i := 9) (v := ?_) rfl rfl (by kernel_rfl) (by kernel_rfl) (by kernel_rfl) (fun _ _ _ h => h) rfl ?_ hHeld ?_
  rotate_left
  · (intro wq hSq; have q0 := (World.cell?_of_block (w := W0) (a := ⟨w.heap.size, 0, none⟩) hSq).trans c0; have q1 := (World.cell?_of_block (w := W0) (a := ⟨w.heap.size, 1, none⟩) hSq).trans c1; have q2 := (World.cell?_of_block (w := W0) (a := ⟨w.heap.size, 2, none⟩) hSq).trans c2; have q3 := (World.cell?_of_block (w := W0) (a := ⟨w.heap.size, 3, none⟩) hSq).trans c3; go_simp <;> first | with_reducible rfl | rfl)
  simp only [Act.put, List.setIfInBounds_toArray, List.set_cons_zero, List.set_cons_succ]
  refine take_one (i := 10) rfl (by kernel_rfl) (fun K hK => ?_)
  go_simp
  skip
  try go_wp2_with fail
  refine hK.out _ _ ?_ (fun hHeld => ?_)
  · exact (fill_keep (by omega) (ofVersionE ⟨key, stamp, val, dead⟩) a9 c9).trans hHeld
  clear hK K
  try simp only [Act.put, List.setIfInBounds_toArray, List.set_cons_zero, List.set_cons_succ]
  refine wpAnyH_done (by kernel_rfl) ?_ _
  have hend := HQ.out y1 a9 c9 hown.out ⟨hb1.out.os, hb1.out.tape, hb1.out.output, hb1.out.size, hb1.out.block⟩
  clear HQ hfr hown hb1 HRS
  go_wp2_with fail
  refine bodyPost_ret (v := .agg #[.int .i64 5, .int .i64 stamp, .int .i64 0, .string key, .slice a9 val.length c9, .bool dead]) ?_ rfl hend
  simp [results, Try.results9, go_sem, y0_, y1_, y2_, y3_, y4_, y5_]

set_option maxRecDepth 100000 in
set_option maxHeartbeats 1000000 in
theorem ofWrite_put (x : Vn) (a : Option Addr) (c : Nat) (w : World) (hdd : x.dead = false) (hr : RowB w a x.val) (hl : x.val.length ≤ 140737488355328) (hnil : a = none → x.val.length = 0 ∧ c = 0) :
    Calls Try.prog 8 #[valV x a c] w fun e w' => EnTo w ⟨1, 0, 0, x.key, x.val, false⟩ e w' := by
  obtain ⟨W0, hW0⟩ : ∃ W, W = (w.alloc (.cells #[.string x.key, .int .i64 x.stamp, .slice a x.val.length c, .bool x.dead] 30)).alloc (.cells #[.int .i64 0, .int .i64 0, .int .i64 0, .string ⟨#[]⟩, .slice none 0 0, .bool false] 24) := ⟨_, rfl⟩
  have hb0 : Below w.heap.size w W0 := by rw [hW0]; exact ((Below.refl _ _).alloc (Nat.le_refl _) _).alloc (by simp) _
  have hs0 : W0.heap.size = w.heap.size + 2 := by rw [hW0]; simp
  have hbx : BoxW W0 w.heap.size x a c := by rw [hW0]; exact (Below.heap_alloc _ _ _ (by simp)).trans (heap_alloc_new w _)
  have hrs : BoxN W0 (w.heap.size + 1) zeroEn none 0 := by
    rw [hW0]
    have e := heap_alloc_new (w.alloc (.cells #[.string x.key, .int .i64 x.stamp, .slice a x.val.length c, .bool x.dead] 30)) (.cells #[.int .i64 0, .int .i64 0, .int .i64 0, .string ⟨#[]⟩, .slice none 0 0, .bool false] 24)
    rw [World.size_alloc] at e
    exact e
  have hfr := clone_any a c x.val W0.drew (hr.below (hb0.drew)) hl hnil
  obtain ⟨c0, c1, c2, c3⟩ := hbx.cells
  have HS0 := hide_it hs0
  have HRS := hide_it hrs
  clear hr hnil hl hs0 hrs
  obtain ⟨Q, hQ⟩ : ∃ Q, Q = EnTo w ⟨1, 0, 0, x.key, x.val, false⟩ := ⟨_, rfl⟩
  rw [← hQ]
  have HQ : Hid (∀ (y1 : World) (av : Option Addr) (cv : Nat), OwnB y1 W0.heap.size (.slice av x.val.length cv) x.val → Below W0.heap.size W0 y1 → Q (.returned (.agg #[.int .i64 1, .int .i64 0, .int .i64 0, .string x.key, .slice av x.val.length cv, .bool false])) (fillE y1 (w.heap.size + 1) ⟨1, 0, 0, x.key, x.val, false⟩ av cv)) := fun y1 av cv h1 h2 => by
    rw [hQ]
    have hs := HS0.out
    exact ⟨⟨av, cv, rfl, (OwnB.fill h1 (by omega) _ _ _).mono (by omega)⟩, fill_below (hb0.trans (h2.mono (by omega))) (by omega) _ _ _⟩
  clear hQ hb0 hbx
  obtain ⟨key, stamp, val, dead⟩ := x
  simp only at c0 c1 c2 c3 hfr HQ hW0
  simp only at hdd
  subst hdd
  go_enter Try.func8, Try.ntmps8
  go_wp2_with fail
  rw [← hW0]
  clear hW0
  refine wp_region_held_drew (S := (fun w' => w'.heap[w.heap.size]? = W0.heap[w.heap.size]?)) (by kernel_rfl) ?_ (fun hHeld => ?_)
  · rfl
  refine take_on (i := 0) (v := ?_) rfl rfl (by kernel_rfl) (by kernel_rfl) (by kernel_rfl) (fun _ _ _ h => h) rfl ?_ hHeld ?_
  rotate_left
  · (intro wq hSq; have q0 := (World.cell?_of_block (w := W0) (a := ⟨w.heap.size, 0, none⟩) hSq).trans c0; have q1 := (World.cell?_of_block (w := W0) (a := ⟨w.heap.size, 1, none⟩) hSq).trans c1; have q2 := (World.cell?_of_block (w := W0) (a := ⟨w.heap.size, 2, none⟩) hSq).trans c2; have q3 := (World.cell?_of_block (w := W0) (a := ⟨w.heap.size, 3, none⟩) hSq).trans c3; go_simp <;> first | with_reducible rfl | rfl)
  simp only [Act.put, List.setIfInBounds_toArray, List.set_cons_zero, List.set_cons_succ]
  refine take_on (i := 1) (v := ?_) rfl rfl (by kernel_rfl) (by kernel_rfl) (by kernel_rfl) (fun _ _ _ h => h) rfl ?_ hHeld ?_
  rotate_left
  · (intro wq hSq; have q0 := (World.cell?_of_block (w := W0) (a := ⟨w.heap.size, 0, none⟩) hSq).trans c0; have q1 := (World.cell?_of_block (w := W0) (a := ⟨w.heap.size, 1, none⟩) hSq).trans c1; have q2 := (World.cell?_of_block (w := W0) (a := ⟨w.heap.size, 2, none⟩) hSq).trans c2; have q3 := (World.cell?_of_block (w := W0) (a := ⟨w.heap.size, 3, none⟩) hSq).trans c3; go_simp <;> first | with_reducible rfl | rfl)
  simp only [Act.put, List.setIfInBounds_toArray, List.set_cons_zero, List.set_cons_succ]
  refine take_on (i := 2) (v := ?_) rfl rfl (by kernel_rfl) (by kernel_rfl) (by kernel_rfl) (fun _ _ _ h => h) rfl ?_ hHeld ?_
  rotate_left
  · (intro wq hSq; have q0 := (World.cell?_of_block (w := W0) (a := ⟨w.heap.size, 0, none⟩) hSq).trans c0; have q1 := (World.cell?_of_block (w := W0) (a := ⟨w.heap.size, 1, none⟩) hSq).trans c1; have q2 := (World.cell?_of_block (w := W0) (a := ⟨w.heap.size, 2, none⟩) hSq).trans c2; have q3 := (World.cell?_of_block (w := W0) (a := ⟨w.heap.size, 3, none⟩) hSq).trans c3; go_simp <;> first | with_reducible rfl | rfl)
  simp only [Act.put, List.setIfInBounds_toArray, List.set_cons_zero, List.set_cons_succ]
  refine take_on (i := 3) (v := ?_) rfl rfl (by kernel_rfl) (by kernel_rfl) (by kernel_rfl) (fun _ _ _ h => h) rfl ?_ hHeld ?_
  rotate_left
  · (intro wq hSq; have q0 := (World.cell?_of_block (w := W0) (a := ⟨w.heap.size, 0, none⟩) hSq).trans c0; have q1 := (World.cell?_of_block (w := W0) (a := ⟨w.heap.size, 1, none⟩) hSq).trans c1; have q2 := (World.cell?_of_block (w := W0) (a := ⟨w.heap.size, 2, none⟩) hSq).trans c2; have q3 := (World.cell?_of_block (w := W0) (a := ⟨w.heap.size, 3, none⟩) hSq).trans c3; go_simp <;> first | with_reducible rfl | rfl)
  simp only [Act.put, List.setIfInBounds_toArray, List.set_cons_zero, List.set_cons_succ]
  refine take_one (i := 4) rfl (by kernel_rfl) (fun K hK => ?_)
  go_simp
  refine hfr.mono ?_; rintro e y1 ⟨⟨r, rfl, hown⟩, hb1⟩; have hy : BoxN y1 (w.heap.size + 1) zeroEn none 0 := (hb1.block (w.heap.size + 1) (by have := HS0.out; show w.heap.size + 1 < W0.heap.size; omega)).trans HRS.out; obtain ⟨y0_, y1_, y2_, y3_, y4_, y5_⟩ := hy.inE; have hz := hy.soft; obtain ⟨a9, c9, e9, _⟩ := hown.row; subst e9; replace hown := hide_it hown; replace hb1 := hide_it hb1
  try go_wp2_with fail
  refine hK.out _ _ ?_ (fun hHeld => ?_)
  · exact hb1.out.block w.heap.size (by have := HS0.out; show w.heap.size < W0.heap.size; omega)
  clear hK K
  try simp only [Act.put, List.setIfInBounds_toArray, List.set_cons_zero, List.set_cons_succ]
  refine take_on (i := 5) (v := ?_) rfl rfl (by kernel_rfl) (by kernel_rfl) (by kernel_rfl) (fun _ _ _ h => h) rfl ?_ hHeld ?_
  rotate_left
  · (intro wq hSq; have q0 := (World.cell?_of_block (w := W0) (a := ⟨w.heap.size, 0, none⟩) hSq).trans c0; have q1 := (World.cell?_of_block (w := W0) (a := ⟨w.heap.size, 1, none⟩) hSq).trans c1; have q2 := (World.cell?_of_block (w := W0) (a := ⟨w.heap.size, 2, none⟩) hSq).trans c2; have q3 := (World.cell?_of_block (w := W0) (a := ⟨w.heap.size, 3, none⟩) hSq).trans c3; go_simp <;> first | with_reducible rfl | rfl)
  simp only [Act.put, List.setIfInBounds_toArray, List.set_cons_zero, List.set_cons_succ]
  refine take_one (i := 6) rfl (by kernel_rfl) (fun K hK => ?_)
  go_simp
  skip
  try go_wp2_with fail
  refine hK.out _ _ ?_ (fun hHeld => ?_)
  · exact (fill_keep (by omega) ⟨1, 0, 0, key, val, false⟩ a9 c9).trans hHeld
  clear hK K
  try simp only [Act.put, List.setIfInBounds_toArray, List.set_cons_zero, List.set_cons_succ]
  refine wpAnyH_done (by kernel_rfl) ?_ _
  have hend := HQ.out y1 a9 c9 hown.out ⟨hb1.out.os, hb1.out.tape, hb1.out.output, hb1.out.size, hb1.out.block⟩
  clear HQ hfr hown hb1 HRS
  go_wp2_with fail
  refine bodyPost_ret (v := .agg #[.int .i64 1, .int .i64 0, .int .i64 0, .string key, .slice a9 val.length c9, .bool false]) ?_ rfl hend
  simp [results, Try.results8, go_sem, y0_, y1_, y2_, y3_, y4_, y5_]

set_option maxRecDepth 100000 in
set_option maxHeartbeats 1000000 in
theorem ofWrite_del (x : Vn) (a : Option Addr) (c : Nat) (w : World) (hdd : x.dead = true) :
    Calls Try.prog 8 #[valV x a c] w fun e w' => EnTo w ⟨2, 0, 0, x.key, [], false⟩ e w' := by
  obtain ⟨key, stamp, val, dead⟩ := x
  simp only at hdd
  subst hdd
  go_enter Try.func8, Try.ntmps8
  go_wp2_with fail
  refine bodyPost_ret (v := .agg #[.int .i64 2, .int .i64 0, .int .i64 0, .string key, .slice none 0 0, .bool false]) ?_ rfl ⟨⟨none, 0, rfl, World.ownsRow_nil _ _ _ _⟩, ?_⟩
  · simp [results, Try.results8, go_sem]
  · exact ((Below.refl _ _).alloc (Nat.le_refl _) _).alloc (by simp) _
theorem ofWrite_any (x : Vn) (a : Option Addr) (c : Nat) (w : World) (hr : RowB w a x.val) (hl : x.val.length ≤ 140737488355328) (hnil : a = none → x.val.length = 0 ∧ c = 0) :
    Calls Try.prog 8 #[valV x a c] w fun e w' => EnTo w (ofWriteE x) e w' := by
  cases h : x.dead
  · have e : ofWriteE x = ⟨1, 0, 0, x.key, x.val, false⟩ := by unfold ofWriteE; rw [h]; rfl
    rw [e]; exact ofWrite_put x a c w h hr hl hnil
  · have e : ofWriteE x = ⟨2, 0, 0, x.key, [], false⟩ := by unfold ofWriteE; rw [h]; rfl
    rw [e]; exact ofWrite_del x a c w h

set_option maxRecDepth 100000 in
set_option maxHeartbeats 1000000 in
theorem rofVersion_any (x : Vn) (a : Option Addr) (c : Nat) (w : World) (hr : RowB w a x.val) (hl : x.val.length ≤ 140737488355328) (hnil : a = none → x.val.length = 0 ∧ c = 0) :
    Calls Try.prog 14 #[valV x a c] w fun e w' => EnTo w (ofVersionE x) e w' := by
  obtain ⟨W0, hW0⟩ : ∃ W, W = (w.alloc (.cells #[.string x.key, .int .i64 x.stamp, .slice a x.val.length c, .bool x.dead] 30)).alloc (.cells #[.int .i64 0, .int .i64 0, .int .i64 0, .string ⟨#[]⟩, .slice none 0 0, .bool false] 24) := ⟨_, rfl⟩
  have hb0 : Below w.heap.size w W0 := by rw [hW0]; exact ((Below.refl _ _).alloc (Nat.le_refl _) _).alloc (by simp) _
  have hs0 : W0.heap.size = w.heap.size + 2 := by rw [hW0]; simp
  have hbx : BoxW W0 w.heap.size x a c := by rw [hW0]; exact (Below.heap_alloc _ _ _ (by simp)).trans (heap_alloc_new w _)
  have hrs : BoxN W0 (w.heap.size + 1) zeroEn none 0 := by
    rw [hW0]
    have e := heap_alloc_new (w.alloc (.cells #[.string x.key, .int .i64 x.stamp, .slice a x.val.length c, .bool x.dead] 30)) (.cells #[.int .i64 0, .int .i64 0, .int .i64 0, .string ⟨#[]⟩, .slice none 0 0, .bool false] 24)
    rw [World.size_alloc] at e
    exact e
  have hfr := rown_any a c x.val W0.drew (hr.below (hb0.drew)) hl hnil
  obtain ⟨c0, c1, c2, c3⟩ := hbx.cells
  have HS0 := hide_it hs0
  have HRS := hide_it hrs
  clear hr hnil hl hs0 hrs
  obtain ⟨Q, hQ⟩ : ∃ Q, Q = EnTo w (ofVersionE x) := ⟨_, rfl⟩
  rw [← hQ]
  have HQ : Hid (∀ (y1 : World) (av : Option Addr) (cv : Nat), OwnB y1 W0.heap.size (.slice av x.val.length cv) x.val → Below W0.heap.size W0 y1 → Q (.returned (.agg #[.int .i64 5, .int .i64 x.stamp, .int .i64 0, .string x.key, .slice av x.val.length cv, .bool x.dead])) (fillE y1 (w.heap.size + 1) (ofVersionE x) av cv)) := fun y1 av cv h1 h2 => by
    rw [hQ]
    have hs := HS0.out
    exact ⟨⟨av, cv, rfl, (OwnB.fill h1 (by omega) _ _ _).mono (by omega)⟩, fill_below (hb0.trans (h2.mono (by omega))) (by omega) _ _ _⟩
  clear hQ hb0 hbx
  obtain ⟨key, stamp, val, dead⟩ := x
  simp only at c0 c1 c2 c3 hfr HQ hW0
  go_enter Try.func14, Try.ntmps14
  go_wp2_with fail
  rw [← hW0]
  clear hW0
  refine wp_region_held_drew (S := (fun w' => w'.heap[w.heap.size]? = W0.heap[w.heap.size]?)) (by kernel_rfl) ?_ (fun hHeld => ?_)
  · rfl
  refine take_on (i := 0) (v := ?_) rfl rfl (by kernel_rfl) (by kernel_rfl) (by kernel_rfl) (fun _ _ _ h => h) rfl ?_ hHeld ?_
  rotate_left
  · (intro wq hSq; have q0 := (World.cell?_of_block (w := W0) (a := ⟨w.heap.size, 0, none⟩) hSq).trans c0; have q1 := (World.cell?_of_block (w := W0) (a := ⟨w.heap.size, 1, none⟩) hSq).trans c1; have q2 := (World.cell?_of_block (w := W0) (a := ⟨w.heap.size, 2, none⟩) hSq).trans c2; have q3 := (World.cell?_of_block (w := W0) (a := ⟨w.heap.size, 3, none⟩) hSq).trans c3; go_simp <;> first | with_reducible rfl | rfl)
  simp only [Act.put, List.setIfInBounds_toArray, List.set_cons_zero, List.set_cons_succ]
  refine take_on (i := 1) (v := ?_) rfl rfl (by kernel_rfl) (by kernel_rfl) (by kernel_rfl) (fun _ _ _ h => h) rfl ?_ hHeld ?_
  rotate_left
  · (intro wq hSq; have q0 := (World.cell?_of_block (w := W0) (a := ⟨w.heap.size, 0, none⟩) hSq).trans c0; have q1 := (World.cell?_of_block (w := W0) (a := ⟨w.heap.size, 1, none⟩) hSq).trans c1; have q2 := (World.cell?_of_block (w := W0) (a := ⟨w.heap.size, 2, none⟩) hSq).trans c2; have q3 := (World.cell?_of_block (w := W0) (a := ⟨w.heap.size, 3, none⟩) hSq).trans c3; go_simp <;> first | with_reducible rfl | rfl)
  simp only [Act.put, List.setIfInBounds_toArray, List.set_cons_zero, List.set_cons_succ]
  refine take_on (i := 2) (v := ?_) rfl rfl (by kernel_rfl) (by kernel_rfl) (by kernel_rfl) (fun _ _ _ h => h) rfl ?_ hHeld ?_
  rotate_left
  · (intro wq hSq; have q0 := (World.cell?_of_block (w := W0) (a := ⟨w.heap.size, 0, none⟩) hSq).trans c0; have q1 := (World.cell?_of_block (w := W0) (a := ⟨w.heap.size, 1, none⟩) hSq).trans c1; have q2 := (World.cell?_of_block (w := W0) (a := ⟨w.heap.size, 2, none⟩) hSq).trans c2; have q3 := (World.cell?_of_block (w := W0) (a := ⟨w.heap.size, 3, none⟩) hSq).trans c3; go_simp <;> first | with_reducible rfl | rfl)
  simp only [Act.put, List.setIfInBounds_toArray, List.set_cons_zero, List.set_cons_succ]
  refine take_on (i := 3) (v := ?_) rfl rfl (by kernel_rfl) (by kernel_rfl) (by kernel_rfl) (fun _ _ _ h => h) rfl ?_ hHeld ?_
  rotate_left
  · (intro wq hSq; have q0 := (World.cell?_of_block (w := W0) (a := ⟨w.heap.size, 0, none⟩) hSq).trans c0; have q1 := (World.cell?_of_block (w := W0) (a := ⟨w.heap.size, 1, none⟩) hSq).trans c1; have q2 := (World.cell?_of_block (w := W0) (a := ⟨w.heap.size, 2, none⟩) hSq).trans c2; have q3 := (World.cell?_of_block (w := W0) (a := ⟨w.heap.size, 3, none⟩) hSq).trans c3; go_simp <;> first | with_reducible rfl | rfl)
  simp only [Act.put, List.setIfInBounds_toArray, List.set_cons_zero, List.set_cons_succ]
  refine take_on (i := 4) (v := ?_) rfl rfl (by kernel_rfl) (by kernel_rfl) (by kernel_rfl) (fun _ _ _ h => h) rfl ?_ hHeld ?_
  rotate_left
  · (intro wq hSq; have q0 := (World.cell?_of_block (w := W0) (a := ⟨w.heap.size, 0, none⟩) hSq).trans c0; have q1 := (World.cell?_of_block (w := W0) (a := ⟨w.heap.size, 1, none⟩) hSq).trans c1; have q2 := (World.cell?_of_block (w := W0) (a := ⟨w.heap.size, 2, none⟩) hSq).trans c2; have q3 := (World.cell?_of_block (w := W0) (a := ⟨w.heap.size, 3, none⟩) hSq).trans c3; go_simp <;> first | with_reducible rfl | rfl)
  simp only [Act.put, List.setIfInBounds_toArray, List.set_cons_zero, List.set_cons_succ]
  refine take_on (i := 5) (v := ?_) rfl rfl (by kernel_rfl) (by kernel_rfl) (by kernel_rfl) (fun _ _ _ h => h) rfl ?_ hHeld ?_
  rotate_left
  · (intro wq hSq; have q0 := (World.cell?_of_block (w := W0) (a := ⟨w.heap.size, 0, none⟩) hSq).trans c0; have q1 := (World.cell?_of_block (w := W0) (a := ⟨w.heap.size, 1, none⟩) hSq).trans c1; have q2 := (World.cell?_of_block (w := W0) (a := ⟨w.heap.size, 2, none⟩) hSq).trans c2; have q3 := (World.cell?_of_block (w := W0) (a := ⟨w.heap.size, 3, none⟩) hSq).trans c3; go_simp <;> first | with_reducible rfl | rfl)
  simp only [Act.put, List.setIfInBounds_toArray, List.set_cons_zero, List.set_cons_succ]
  refine take_on (i := 6) (v := ?_) rfl rfl (by kernel_rfl) (by kernel_rfl) (by kernel_rfl) (fun _ _ _ h => h) rfl ?_ hHeld ?_
  rotate_left
  · (intro wq hSq; have q0 := (World.cell?_of_block (w := W0) (a := ⟨w.heap.size, 0, none⟩) hSq).trans c0; have q1 := (World.cell?_of_block (w := W0) (a := ⟨w.heap.size, 1, none⟩) hSq).trans c1; have q2 := (World.cell?_of_block (w := W0) (a := ⟨w.heap.size, 2, none⟩) hSq).trans c2; have q3 := (World.cell?_of_block (w := W0) (a := ⟨w.heap.size, 3, none⟩) hSq).trans c3; go_simp <;> first | with_reducible rfl | rfl)
  simp only [Act.put, List.setIfInBounds_toArray, List.set_cons_zero, List.set_cons_succ]
  refine take_on (i := 7) (v := ?_) rfl rfl (by kernel_rfl) (by kernel_rfl) (by kernel_rfl) (fun _ _ _ h => h) rfl ?_ hHeld ?_
  rotate_left
  · (intro wq hSq; have q0 := (World.cell?_of_block (w := W0) (a := ⟨w.heap.size, 0, none⟩) hSq).trans c0; have q1 := (World.cell?_of_block (w := W0) (a := ⟨w.heap.size, 1, none⟩) hSq).trans c1; have q2 := (World.cell?_of_block (w := W0) (a := ⟨w.heap.size, 2, none⟩) hSq).trans c2; have q3 := (World.cell?_of_block (w := W0) (a := ⟨w.heap.size, 3, none⟩) hSq).trans c3; go_simp <;> first | with_reducible rfl | rfl)
  simp only [Act.put, List.setIfInBounds_toArray, List.set_cons_zero, List.set_cons_succ]
  refine take_one (i := 8) rfl (by kernel_rfl) (fun K hK => ?_)
  go_simp
  refine hfr.mono ?_; rintro e y1 ⟨⟨r, rfl, hown⟩, hb1⟩; have hy : BoxN y1 (w.heap.size + 1) zeroEn none 0 := (hb1.block (w.heap.size + 1) (by have := HS0.out; show w.heap.size + 1 < W0.heap.size; omega)).trans HRS.out; obtain ⟨y0_, y1_, y2_, y3_, y4_, y5_⟩ := hy.inE; have hz := hy.soft; obtain ⟨a9, c9, e9, _⟩ := hown.row; subst e9; replace hown := hide_it hown; replace hb1 := hide_it hb1
  try go_wp2_with fail
  refine hK.out _ _ ?_ (fun hHeld => ?_)
  · exact hb1.out.block w.heap.size (by have := HS0.out; show w.heap.size < W0.heap.size; omega)
  clear hK K
  try simp only [Act.put, List.setIfInBounds_toArray, List.set_cons_zero, List.set_cons_succ]
  refine take_on (i := 9) (v := ?_) rfl rfl (by kernel_rfl) (by kernel_rfl) (by kernel_rfl) (fun _ _ _ h => h) rfl ?_ hHeld ?_
  rotate_left
  · (intro wq hSq; have q0 := (World.cell?_of_block (w := W0) (a := ⟨w.heap.size, 0, none⟩) hSq).trans c0; have q1 := (World.cell?_of_block (w := W0) (a := ⟨w.heap.size, 1, none⟩) hSq).trans c1; have q2 := (World.cell?_of_block (w := W0) (a := ⟨w.heap.size, 2, none⟩) hSq).trans c2; have q3 := (World.cell?_of_block (w := W0) (a := ⟨w.heap.size, 3, none⟩) hSq).trans c3; go_simp <;> first | with_reducible rfl | rfl)
  simp only [Act.put, List.setIfInBounds_toArray, List.set_cons_zero, List.set_cons_succ]
  refine take_one (i := 10) rfl (by kernel_rfl) (fun K hK => ?_)
  go_simp
  skip
  try go_wp2_with fail
  refine hK.out _ _ ?_ (fun hHeld => ?_)
  · exact (fill_keep (by omega) (ofVersionE ⟨key, stamp, val, dead⟩) a9 c9).trans hHeld
  clear hK K
  try simp only [Act.put, List.setIfInBounds_toArray, List.set_cons_zero, List.set_cons_succ]
  refine wpAnyH_done (by kernel_rfl) ?_ _
  have hend := HQ.out y1 a9 c9 hown.out ⟨hb1.out.os, hb1.out.tape, hb1.out.output, hb1.out.size, hb1.out.block⟩
  clear HQ hfr hown hb1 HRS
  go_wp2_with fail
  refine bodyPost_ret (v := .agg #[.int .i64 5, .int .i64 stamp, .int .i64 0, .string key, .slice a9 val.length c9, .bool dead]) ?_ rfl hend
  simp [results, Try.results14, go_sem, y0_, y1_, y2_, y3_, y4_, y5_]

set_option maxRecDepth 100000 in
set_option maxHeartbeats 1000000 in
theorem rofWrite_put (x : Vn) (a : Option Addr) (c : Nat) (w : World) (hdd : x.dead = false) (hr : RowB w a x.val) (hl : x.val.length ≤ 140737488355328) (hnil : a = none → x.val.length = 0 ∧ c = 0) :
    Calls Try.prog 13 #[valV x a c] w fun e w' => EnTo w ⟨1, 0, 0, x.key, x.val, false⟩ e w' := by
  obtain ⟨W0, hW0⟩ : ∃ W, W = (w.alloc (.cells #[.string x.key, .int .i64 x.stamp, .slice a x.val.length c, .bool x.dead] 30)).alloc (.cells #[.int .i64 0, .int .i64 0, .int .i64 0, .string ⟨#[]⟩, .slice none 0 0, .bool false] 24) := ⟨_, rfl⟩
  have hb0 : Below w.heap.size w W0 := by rw [hW0]; exact ((Below.refl _ _).alloc (Nat.le_refl _) _).alloc (by simp) _
  have hs0 : W0.heap.size = w.heap.size + 2 := by rw [hW0]; simp
  have hbx : BoxW W0 w.heap.size x a c := by rw [hW0]; exact (Below.heap_alloc _ _ _ (by simp)).trans (heap_alloc_new w _)
  have hrs : BoxN W0 (w.heap.size + 1) zeroEn none 0 := by
    rw [hW0]
    have e := heap_alloc_new (w.alloc (.cells #[.string x.key, .int .i64 x.stamp, .slice a x.val.length c, .bool x.dead] 30)) (.cells #[.int .i64 0, .int .i64 0, .int .i64 0, .string ⟨#[]⟩, .slice none 0 0, .bool false] 24)
    rw [World.size_alloc] at e
    exact e
  have hfr := rown_any a c x.val W0.drew (hr.below (hb0.drew)) hl hnil
  obtain ⟨c0, c1, c2, c3⟩ := hbx.cells
  have HS0 := hide_it hs0
  have HRS := hide_it hrs
  clear hr hnil hl hs0 hrs
  obtain ⟨Q, hQ⟩ : ∃ Q, Q = EnTo w ⟨1, 0, 0, x.key, x.val, false⟩ := ⟨_, rfl⟩
  rw [← hQ]
  have HQ : Hid (∀ (y1 : World) (av : Option Addr) (cv : Nat), OwnB y1 W0.heap.size (.slice av x.val.length cv) x.val → Below W0.heap.size W0 y1 → Q (.returned (.agg #[.int .i64 1, .int .i64 0, .int .i64 0, .string x.key, .slice av x.val.length cv, .bool false])) (fillE y1 (w.heap.size + 1) ⟨1, 0, 0, x.key, x.val, false⟩ av cv)) := fun y1 av cv h1 h2 => by
    rw [hQ]
    have hs := HS0.out
    exact ⟨⟨av, cv, rfl, (OwnB.fill h1 (by omega) _ _ _).mono (by omega)⟩, fill_below (hb0.trans (h2.mono (by omega))) (by omega) _ _ _⟩
  clear hQ hb0 hbx
  obtain ⟨key, stamp, val, dead⟩ := x
  simp only at c0 c1 c2 c3 hfr HQ hW0
  simp only at hdd
  subst hdd
  go_enter Try.func13, Try.ntmps13
  go_wp2_with fail
  rw [← hW0]
  clear hW0
  refine wp_region_held_drew (S := (fun w' => w'.heap[w.heap.size]? = W0.heap[w.heap.size]?)) (by kernel_rfl) ?_ (fun hHeld => ?_)
  · rfl
  refine take_on (i := 0) (v := ?_) rfl rfl (by kernel_rfl) (by kernel_rfl) (by kernel_rfl) (fun _ _ _ h => h) rfl ?_ hHeld ?_
  rotate_left
  · (intro wq hSq; have q0 := (World.cell?_of_block (w := W0) (a := ⟨w.heap.size, 0, none⟩) hSq).trans c0; have q1 := (World.cell?_of_block (w := W0) (a := ⟨w.heap.size, 1, none⟩) hSq).trans c1; have q2 := (World.cell?_of_block (w := W0) (a := ⟨w.heap.size, 2, none⟩) hSq).trans c2; have q3 := (World.cell?_of_block (w := W0) (a := ⟨w.heap.size, 3, none⟩) hSq).trans c3; go_simp <;> first | with_reducible rfl | rfl)
  simp only [Act.put, List.setIfInBounds_toArray, List.set_cons_zero, List.set_cons_succ]
  refine take_on (i := 1) (v := ?_) rfl rfl (by kernel_rfl) (by kernel_rfl) (by kernel_rfl) (fun _ _ _ h => h) rfl ?_ hHeld ?_
  rotate_left
  · (intro wq hSq; have q0 := (World.cell?_of_block (w := W0) (a := ⟨w.heap.size, 0, none⟩) hSq).trans c0; have q1 := (World.cell?_of_block (w := W0) (a := ⟨w.heap.size, 1, none⟩) hSq).trans c1; have q2 := (World.cell?_of_block (w := W0) (a := ⟨w.heap.size, 2, none⟩) hSq).trans c2; have q3 := (World.cell?_of_block (w := W0) (a := ⟨w.heap.size, 3, none⟩) hSq).trans c3; go_simp <;> first | with_reducible rfl | rfl)
  simp only [Act.put, List.setIfInBounds_toArray, List.set_cons_zero, List.set_cons_succ]
  refine take_on (i := 2) (v := ?_) rfl rfl (by kernel_rfl) (by kernel_rfl) (by kernel_rfl) (fun _ _ _ h => h) rfl ?_ hHeld ?_
  rotate_left
  · (intro wq hSq; have q0 := (World.cell?_of_block (w := W0) (a := ⟨w.heap.size, 0, none⟩) hSq).trans c0; have q1 := (World.cell?_of_block (w := W0) (a := ⟨w.heap.size, 1, none⟩) hSq).trans c1; have q2 := (World.cell?_of_block (w := W0) (a := ⟨w.heap.size, 2, none⟩) hSq).trans c2; have q3 := (World.cell?_of_block (w := W0) (a := ⟨w.heap.size, 3, none⟩) hSq).trans c3; go_simp <;> first | with_reducible rfl | rfl)
  simp only [Act.put, List.setIfInBounds_toArray, List.set_cons_zero, List.set_cons_succ]
  refine take_on (i := 3) (v := ?_) rfl rfl (by kernel_rfl) (by kernel_rfl) (by kernel_rfl) (fun _ _ _ h => h) rfl ?_ hHeld ?_
  rotate_left
  · (intro wq hSq; have q0 := (World.cell?_of_block (w := W0) (a := ⟨w.heap.size, 0, none⟩) hSq).trans c0; have q1 := (World.cell?_of_block (w := W0) (a := ⟨w.heap.size, 1, none⟩) hSq).trans c1; have q2 := (World.cell?_of_block (w := W0) (a := ⟨w.heap.size, 2, none⟩) hSq).trans c2; have q3 := (World.cell?_of_block (w := W0) (a := ⟨w.heap.size, 3, none⟩) hSq).trans c3; go_simp <;> first | with_reducible rfl | rfl)
  simp only [Act.put, List.setIfInBounds_toArray, List.set_cons_zero, List.set_cons_succ]
  refine take_one (i := 4) rfl (by kernel_rfl) (fun K hK => ?_)
  go_simp
  refine hfr.mono ?_; rintro e y1 ⟨⟨r, rfl, hown⟩, hb1⟩; have hy : BoxN y1 (w.heap.size + 1) zeroEn none 0 := (hb1.block (w.heap.size + 1) (by have := HS0.out; show w.heap.size + 1 < W0.heap.size; omega)).trans HRS.out; obtain ⟨y0_, y1_, y2_, y3_, y4_, y5_⟩ := hy.inE; have hz := hy.soft; obtain ⟨a9, c9, e9, _⟩ := hown.row; subst e9; replace hown := hide_it hown; replace hb1 := hide_it hb1
  try go_wp2_with fail
  refine hK.out _ _ ?_ (fun hHeld => ?_)
  · exact hb1.out.block w.heap.size (by have := HS0.out; show w.heap.size < W0.heap.size; omega)
  clear hK K
  try simp only [Act.put, List.setIfInBounds_toArray, List.set_cons_zero, List.set_cons_succ]
  refine take_on (i := 5) (v := ?_) rfl rfl (by kernel_rfl) (by kernel_rfl) (by kernel_rfl) (fun _ _ _ h => h) rfl ?_ hHeld ?_
  rotate_left
  · (intro wq hSq; have q0 := (World.cell?_of_block (w := W0) (a := ⟨w.heap.size, 0, none⟩) hSq).trans c0; have q1 := (World.cell?_of_block (w := W0) (a := ⟨w.heap.size, 1, none⟩) hSq).trans c1; have q2 := (World.cell?_of_block (w := W0) (a := ⟨w.heap.size, 2, none⟩) hSq).trans c2; have q3 := (World.cell?_of_block (w := W0) (a := ⟨w.heap.size, 3, none⟩) hSq).trans c3; go_simp <;> first | with_reducible rfl | rfl)
  simp only [Act.put, List.setIfInBounds_toArray, List.set_cons_zero, List.set_cons_succ]
  refine take_one (i := 6) rfl (by kernel_rfl) (fun K hK => ?_)
  go_simp
  skip
  try go_wp2_with fail
  refine hK.out _ _ ?_ (fun hHeld => ?_)
  · exact (fill_keep (by omega) ⟨1, 0, 0, key, val, false⟩ a9 c9).trans hHeld
  clear hK K
  try simp only [Act.put, List.setIfInBounds_toArray, List.set_cons_zero, List.set_cons_succ]
  refine wpAnyH_done (by kernel_rfl) ?_ _
  have hend := HQ.out y1 a9 c9 hown.out ⟨hb1.out.os, hb1.out.tape, hb1.out.output, hb1.out.size, hb1.out.block⟩
  clear HQ hfr hown hb1 HRS
  go_wp2_with fail
  refine bodyPost_ret (v := .agg #[.int .i64 1, .int .i64 0, .int .i64 0, .string key, .slice a9 val.length c9, .bool false]) ?_ rfl hend
  simp [results, Try.results13, go_sem, y0_, y1_, y2_, y3_, y4_, y5_]

set_option maxRecDepth 100000 in
set_option maxHeartbeats 1000000 in
theorem rofWrite_del (x : Vn) (a : Option Addr) (c : Nat) (w : World) (hdd : x.dead = true) :
    Calls Try.prog 13 #[valV x a c] w fun e w' => EnTo w ⟨2, 0, 0, x.key, [], false⟩ e w' := by
  obtain ⟨key, stamp, val, dead⟩ := x
  simp only at hdd
  subst hdd
  go_enter Try.func13, Try.ntmps13
  go_wp2_with fail
  refine bodyPost_ret (v := .agg #[.int .i64 2, .int .i64 0, .int .i64 0, .string key, .slice none 0 0, .bool false]) ?_ rfl ⟨⟨none, 0, rfl, World.ownsRow_nil _ _ _ _⟩, ?_⟩
  · simp [results, Try.results13, go_sem]
  · exact ((Below.refl _ _).alloc (Nat.le_refl _) _).alloc (by simp) _
theorem rofWrite_any (x : Vn) (a : Option Addr) (c : Nat) (w : World) (hr : RowB w a x.val) (hl : x.val.length ≤ 140737488355328) (hnil : a = none → x.val.length = 0 ∧ c = 0) :
    Calls Try.prog 13 #[valV x a c] w fun e w' => EnTo w (ofWriteE x) e w' := by
  cases h : x.dead
  · have e : ofWriteE x = ⟨1, 0, 0, x.key, x.val, false⟩ := by unfold ofWriteE; rw [h]; rfl
    rw [e]; exact rofWrite_put x a c w h hr hl hnil
  · have e : ofWriteE x = ⟨2, 0, 0, x.key, [], false⟩ := by unfold ofWriteE; rw [h]; rfl
    rw [e]; exact rofWrite_del x a c w h

end Go.Proofs.Ytlhlpofmeeiffab
