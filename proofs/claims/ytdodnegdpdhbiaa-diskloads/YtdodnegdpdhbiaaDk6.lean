/- The disk's operations, told by what they do to an area. -/
import Derived.Test.YtdodnegdpdhbiaaDk4
import Derived.Test.YtdodnegdpdhbiaaDk5
namespace Go.Proofs.Ytdodnegdpdhbiaa
open Go.RowKit

/-- What an operation answers, and the area behind it. Kind: 0 Append of zs, 1 Sync, 2 Cut at A, else Trim to A. -/
def opX (x : Pt) (kd : Nat) (A : Int) (zs : List Nat) : Int × Pt :=
  if kd = 0 then (0, { x with bs := x.bs ++ zs, c := x.c + 1 })
  else if kd = 1 then (0, { x with k := x.bs.length, c := x.c + 1 })
  else if kd = 2 then (if A < (x.B : Int) ∨ (x.B : Int) + (x.bs.length : Int) < A then (70, x) else (0, { x with bs := x.bs.take (A - (x.B : Int)).toNat, k := min x.k (A - (x.B : Int)).toNat, c := x.c + 1 }))
  else (if A < (x.B : Int) ∨ (x.B : Int) + (x.k : Int) < A then (70, x) else (0, { x with B := x.B + (A - (x.B : Int)).toNat, bs := x.bs.drop (A - (x.B : Int)).toNat, k := x.k - (A - (x.B : Int)).toNat, c := x.c + 1 }))
/-- .. unless the power is gone. -/
def opS (am : Bool) (x : Pt) (kd : Nat) (A : Int) (zs : List Nat) : Int × Pt := if down am x then (80, x) else opX x kd A zs

theorem Went.behind {w w1 w2 : World} {F : Nat → Prop} {p : Nat} {am : Bool} {n : Nat} {s : Nat → Pt} (hb : Below w.heap.size w w1) (k : Went w1 F p am n s w2) (hF : ∀ j, F j → j < w.heap.size) : Went w F p am n s w2 := by
  have h1 := hb.size
  have h2 := k.chg.size
  refine ⟨k.dsk.mono (fun j hj => ?_) (fun j hj => ?_), (Chg.new hb).trans k.chg (fun _ _ x => x)⟩
  · rcases hj with hj | hj
    · exact .inl hj
    · exact .inr (by omega)
  · rcases hj with hj | hj
    · have := hF j hj; omega
    · exact hj.2
theorem Opd.of_below {w w' : World} {F : Nat → Prop} {p : Nat} {am : Bool} {n : Nat} {s : Nat → Pt} {E : Int} {e : Ending} (h : Dsk w F p am n s) (he : e = .returned (.int .i64 E)) (hb : Below w.heap.size w w') : Opd w F p am n s E e w' := ⟨he, Went.of_below h hb⟩

section
variable {w : World} {F : Nat → Prop} {p : Nat} {am : Bool} {n : Nat} {s : Nat → Pt} {g : Nat} {C : Array Value} {q : Nat → Nat} {v : Nat → Value}

set_option maxRecDepth 100000 in
set_option maxHeartbeats 400000 in
theorem close_append {g o b qi : Nat} {u : Value} {B : Nat} {bs : List Nat} {k : Nat} {B' : Nat} {bs' : List Nat} {k' : Nat} (x : Value) (E : Int) (w : World) (hg : w.cell? ⟨g, o, none⟩ = some (.pointer (some ⟨qi, 0, none⟩))) (hb : w.cell? ⟨b, 0, none⟩ = some x) (hgl : g < w.heap.size) (hbl : b < w.heap.size) (h : Ar w qi 0 u B bs k) (hgn : ¬ Ft qi u g) (hbn : ¬ Ft qi u b) (a : Option Addr) (l c : Nat) (hx : x = .slice a l c)
    (hc : Calls Try.prog 11 #[.pointer (some ⟨qi, 0, none⟩), x] w.drew fun e w' => e = .returned (.int .i64 E) ∧ Moved w.drew qi 0 u B' bs' k' w') :
    Calls Try.prog 64 #[.pointer (some ⟨g, o, none⟩), .pointer (some ⟨b, 0, none⟩)] w fun e w' => e = .returned (.int .i64 E) ∧ Moved w qi 0 u B' bs' k' w' := by
  subst hx
  have hH := hide_it h
  clear h
  go_enter Try.func64, Try.ntmps64
  go_wp2_with fail
  refine wp_region_held_drew (S := (fun w' => w'.heap[g]? = w.heap[g]? ∧ w'.heap[b]? = w.heap[b]?)) (by kernel_rfl) ?_ (fun hHeld => ?_)
  · exact ⟨rfl, rfl⟩
  refine take_on (i := 0) (v := ?_) rfl rfl (by kernel_rfl) (by kernel_rfl) (by kernel_rfl) (fun _ _ _ h => h) rfl ?_ hHeld ?_
  rotate_left
  · (intro wq hSq; have q0 := (World.cell?_of_block (w := w) (a := ⟨g, o, none⟩) hSq.1).trans hg; have q1 := (World.cell?_of_block (w := w) (a := ⟨b, 0, none⟩) hSq.2).trans hb; go_simp <;> first | with_reducible rfl | rfl)
  simp only [Act.put, List.setIfInBounds_toArray, List.set_cons_zero, List.set_cons_succ]
  refine take_on (i := 1) (v := ?_) rfl rfl (by kernel_rfl) (by kernel_rfl) (by kernel_rfl) (fun _ _ _ h => h) rfl ?_ hHeld ?_
  rotate_left
  · (intro wq hSq; have q0 := (World.cell?_of_block (w := w) (a := ⟨g, o, none⟩) hSq.1).trans hg; have q1 := (World.cell?_of_block (w := w) (a := ⟨b, 0, none⟩) hSq.2).trans hb; go_simp <;> first | with_reducible rfl | rfl)
  simp only [Act.put, List.setIfInBounds_toArray, List.set_cons_zero, List.set_cons_succ]
  refine take_on (i := 2) (v := ?_) rfl rfl (by kernel_rfl) (by kernel_rfl) (by kernel_rfl) (fun _ _ _ h => h) rfl ?_ hHeld ?_
  rotate_left
  · (intro wq hSq; have q0 := (World.cell?_of_block (w := w) (a := ⟨g, o, none⟩) hSq.1).trans hg; have q1 := (World.cell?_of_block (w := w) (a := ⟨b, 0, none⟩) hSq.2).trans hb; go_simp <;> first | with_reducible rfl | rfl)
  simp only [Act.put, List.setIfInBounds_toArray, List.set_cons_zero, List.set_cons_succ]
  refine take_on (i := 3) (v := ?_) rfl rfl (by kernel_rfl) (by kernel_rfl) (by kernel_rfl) (fun _ _ _ h => h) rfl ?_ hHeld ?_
  rotate_left
  · (intro wq hSq; have q0 := (World.cell?_of_block (w := w) (a := ⟨g, o, none⟩) hSq.1).trans hg; have q1 := (World.cell?_of_block (w := w) (a := ⟨b, 0, none⟩) hSq.2).trans hb; go_simp <;> first | with_reducible rfl | rfl)
  simp only [Act.put, List.setIfInBounds_toArray, List.set_cons_zero, List.set_cons_succ]
  refine take_on (i := 4) (v := ?_) rfl rfl (by kernel_rfl) (by kernel_rfl) (by kernel_rfl) (fun _ _ _ h => h) rfl ?_ hHeld ?_
  rotate_left
  · (intro wq hSq; have q0 := (World.cell?_of_block (w := w) (a := ⟨g, o, none⟩) hSq.1).trans hg; have q1 := (World.cell?_of_block (w := w) (a := ⟨b, 0, none⟩) hSq.2).trans hb; go_simp <;> first | with_reducible rfl | rfl)
  simp only [Act.put, List.setIfInBounds_toArray, List.set_cons_zero, List.set_cons_succ]
  refine take_one (i := 5) rfl (by kernel_rfl) (fun K hK => ?_)
  go_simp
  refine hc.mono ?_; rintro e w2 ⟨rfl, hm⟩
  try go_wp2_with fail
  refine hK.out _ _ ?_ (fun hHeld => ?_)
  · exact ⟨hm.chg.block g hgl hgn, hm.chg.block b hbl hbn⟩
  clear hK K
  try simp only [Act.put, List.setIfInBounds_toArray, List.set_cons_zero, List.set_cons_succ]
  refine take_on (i := 6) (v := ?_) rfl rfl (by kernel_rfl) (by kernel_rfl) (by kernel_rfl) (fun _ _ _ h => h) rfl ?_ hHeld ?_
  rotate_left
  · (intro wq hSq; have q0 := (World.cell?_of_block (w := w) (a := ⟨g, o, none⟩) hSq.1).trans hg; have q1 := (World.cell?_of_block (w := w) (a := ⟨b, 0, none⟩) hSq.2).trans hb; go_simp <;> first | with_reducible rfl | rfl)
  simp only [Act.put, List.setIfInBounds_toArray, List.set_cons_zero, List.set_cons_succ]
  refine wpAnyH_done (by kernel_rfl) ?_ _
  go_wp2_with fail
  go_ret
  exact ⟨rfl, Moved.behind hH.out (Below.refl _ _).drew hm⟩

set_option maxRecDepth 100000 in
set_option maxHeartbeats 400000 in
theorem close_cut {g o b qi : Nat} {u : Value} {B : Nat} {bs : List Nat} {k : Nat} {B' : Nat} {bs' : List Nat} {k' : Nat} (x : Value) (E : Int) (w : World) (hg : w.cell? ⟨g, o, none⟩ = some (.pointer (some ⟨qi, 0, none⟩))) (hb : w.cell? ⟨b, 0, none⟩ = some x) (hgl : g < w.heap.size) (hbl : b < w.heap.size) (h : Ar w qi 0 u B bs k) (hgn : ¬ Ft qi u g) (hbn : ¬ Ft qi u b) (A : Int) (hx : x = .int .i64 A)
    (hc : Calls Try.prog 70 #[.pointer (some ⟨qi, 0, none⟩), x] w.drew fun e w' => e = .returned (.int .i64 E) ∧ Moved w.drew qi 0 u B' bs' k' w') :
    Calls Try.prog 83 #[.pointer (some ⟨g, o, none⟩), .pointer (some ⟨b, 0, none⟩)] w fun e w' => e = .returned (.int .i64 E) ∧ Moved w qi 0 u B' bs' k' w' := by
  subst hx
  have hH := hide_it h
  clear h
  go_enter Try.func83, Try.ntmps83
  go_wp2_with fail
  refine wp_region_held_drew (S := (fun w' => w'.heap[g]? = w.heap[g]? ∧ w'.heap[b]? = w.heap[b]?)) (by kernel_rfl) ?_ (fun hHeld => ?_)
  · exact ⟨rfl, rfl⟩
  refine take_on (i := 0) (v := ?_) rfl rfl (by kernel_rfl) (by kernel_rfl) (by kernel_rfl) (fun _ _ _ h => h) rfl ?_ hHeld ?_
  rotate_left
  · (intro wq hSq; have q0 := (World.cell?_of_block (w := w) (a := ⟨g, o, none⟩) hSq.1).trans hg; have q1 := (World.cell?_of_block (w := w) (a := ⟨b, 0, none⟩) hSq.2).trans hb; go_simp <;> first | with_reducible rfl | rfl)
  simp only [Act.put, List.setIfInBounds_toArray, List.set_cons_zero, List.set_cons_succ]
  refine take_on (i := 1) (v := ?_) rfl rfl (by kernel_rfl) (by kernel_rfl) (by kernel_rfl) (fun _ _ _ h => h) rfl ?_ hHeld ?_
  rotate_left
  · (intro wq hSq; have q0 := (World.cell?_of_block (w := w) (a := ⟨g, o, none⟩) hSq.1).trans hg; have q1 := (World.cell?_of_block (w := w) (a := ⟨b, 0, none⟩) hSq.2).trans hb; go_simp <;> first | with_reducible rfl | rfl)
  simp only [Act.put, List.setIfInBounds_toArray, List.set_cons_zero, List.set_cons_succ]
  refine take_on (i := 2) (v := ?_) rfl rfl (by kernel_rfl) (by kernel_rfl) (by kernel_rfl) (fun _ _ _ h => h) rfl ?_ hHeld ?_
  rotate_left
  · (intro wq hSq; have q0 := (World.cell?_of_block (w := w) (a := ⟨g, o, none⟩) hSq.1).trans hg; have q1 := (World.cell?_of_block (w := w) (a := ⟨b, 0, none⟩) hSq.2).trans hb; go_simp <;> first | with_reducible rfl | rfl)
  simp only [Act.put, List.setIfInBounds_toArray, List.set_cons_zero, List.set_cons_succ]
  refine take_on (i := 3) (v := ?_) rfl rfl (by kernel_rfl) (by kernel_rfl) (by kernel_rfl) (fun _ _ _ h => h) rfl ?_ hHeld ?_
  rotate_left
  · (intro wq hSq; have q0 := (World.cell?_of_block (w := w) (a := ⟨g, o, none⟩) hSq.1).trans hg; have q1 := (World.cell?_of_block (w := w) (a := ⟨b, 0, none⟩) hSq.2).trans hb; go_simp <;> first | with_reducible rfl | rfl)
  simp only [Act.put, List.setIfInBounds_toArray, List.set_cons_zero, List.set_cons_succ]
  refine take_on (i := 4) (v := ?_) rfl rfl (by kernel_rfl) (by kernel_rfl) (by kernel_rfl) (fun _ _ _ h => h) rfl ?_ hHeld ?_
  rotate_left
  · (intro wq hSq; have q0 := (World.cell?_of_block (w := w) (a := ⟨g, o, none⟩) hSq.1).trans hg; have q1 := (World.cell?_of_block (w := w) (a := ⟨b, 0, none⟩) hSq.2).trans hb; go_simp <;> first | with_reducible rfl | rfl)
  simp only [Act.put, List.setIfInBounds_toArray, List.set_cons_zero, List.set_cons_succ]
  refine take_one (i := 5) rfl (by kernel_rfl) (fun K hK => ?_)
  go_simp
  refine hc.mono ?_; rintro e w2 ⟨rfl, hm⟩
  try go_wp2_with fail
  refine hK.out _ _ ?_ (fun hHeld => ?_)
  · exact ⟨hm.chg.block g hgl hgn, hm.chg.block b hbl hbn⟩
  clear hK K
  try simp only [Act.put, List.setIfInBounds_toArray, List.set_cons_zero, List.set_cons_succ]
  refine take_on (i := 6) (v := ?_) rfl rfl (by kernel_rfl) (by kernel_rfl) (by kernel_rfl) (fun _ _ _ h => h) rfl ?_ hHeld ?_
  rotate_left
  · (intro wq hSq; have q0 := (World.cell?_of_block (w := w) (a := ⟨g, o, none⟩) hSq.1).trans hg; have q1 := (World.cell?_of_block (w := w) (a := ⟨b, 0, none⟩) hSq.2).trans hb; go_simp <;> first | with_reducible rfl | rfl)
  simp only [Act.put, List.setIfInBounds_toArray, List.set_cons_zero, List.set_cons_succ]
  refine wpAnyH_done (by kernel_rfl) ?_ _
  go_wp2_with fail
  go_ret
  exact ⟨rfl, Moved.behind hH.out (Below.refl _ _).drew hm⟩

set_option maxRecDepth 100000 in
set_option maxHeartbeats 400000 in
theorem close_trim {g o b qi : Nat} {u : Value} {B : Nat} {bs : List Nat} {k : Nat} {B' : Nat} {bs' : List Nat} {k' : Nat} (x : Value) (E : Int) (w : World) (hg : w.cell? ⟨g, o, none⟩ = some (.pointer (some ⟨qi, 0, none⟩))) (hb : w.cell? ⟨b, 0, none⟩ = some x) (hgl : g < w.heap.size) (hbl : b < w.heap.size) (h : Ar w qi 0 u B bs k) (hgn : ¬ Ft qi u g) (hbn : ¬ Ft qi u b) (A : Int) (hx : x = .int .i64 A)
    (hc : Calls Try.prog 41 #[.pointer (some ⟨qi, 0, none⟩), x] w.drew fun e w' => e = .returned (.int .i64 E) ∧ Moved w.drew qi 0 u B' bs' k' w') :
    Calls Try.prog 84 #[.pointer (some ⟨g, o, none⟩), .pointer (some ⟨b, 0, none⟩)] w fun e w' => e = .returned (.int .i64 E) ∧ Moved w qi 0 u B' bs' k' w' := by
  subst hx
  have hH := hide_it h
  clear h
  go_enter Try.func84, Try.ntmps84
  go_wp2_with fail
  refine wp_region_held_drew (S := (fun w' => w'.heap[g]? = w.heap[g]? ∧ w'.heap[b]? = w.heap[b]?)) (by kernel_rfl) ?_ (fun hHeld => ?_)
  · exact ⟨rfl, rfl⟩
  refine take_on (i := 0) (v := ?_) rfl rfl (by kernel_rfl) (by kernel_rfl) (by kernel_rfl) (fun _ _ _ h => h) rfl ?_ hHeld ?_
  rotate_left
  · (intro wq hSq; have q0 := (World.cell?_of_block (w := w) (a := ⟨g, o, none⟩) hSq.1).trans hg; have q1 := (World.cell?_of_block (w := w) (a := ⟨b, 0, none⟩) hSq.2).trans hb; go_simp <;> first | with_reducible rfl | rfl)
  simp only [Act.put, List.setIfInBounds_toArray, List.set_cons_zero, List.set_cons_succ]
  refine take_on (i := 1) (v := ?_) rfl rfl (by kernel_rfl) (by kernel_rfl) (by kernel_rfl) (fun _ _ _ h => h) rfl ?_ hHeld ?_
  rotate_left
  · (intro wq hSq; have q0 := (World.cell?_of_block (w := w) (a := ⟨g, o, none⟩) hSq.1).trans hg; have q1 := (World.cell?_of_block (w := w) (a := ⟨b, 0, none⟩) hSq.2).trans hb; go_simp <;> first | with_reducible rfl | rfl)
  simp only [Act.put, List.setIfInBounds_toArray, List.set_cons_zero, List.set_cons_succ]
  refine take_on (i := 2) (v := ?_) rfl rfl (by kernel_rfl) (by kernel_rfl) (by kernel_rfl) (fun _ _ _ h => h) rfl ?_ hHeld ?_
  rotate_left
  · (intro wq hSq; have q0 := (World.cell?_of_block (w := w) (a := ⟨g, o, none⟩) hSq.1).trans hg; have q1 := (World.cell?_of_block (w := w) (a := ⟨b, 0, none⟩) hSq.2).trans hb; go_simp <;> first | with_reducible rfl | rfl)
  simp only [Act.put, List.setIfInBounds_toArray, List.set_cons_zero, List.set_cons_succ]
  refine take_on (i := 3) (v := ?_) rfl rfl (by kernel_rfl) (by kernel_rfl) (by kernel_rfl) (fun _ _ _ h => h) rfl ?_ hHeld ?_
  rotate_left
  · (intro wq hSq; have q0 := (World.cell?_of_block (w := w) (a := ⟨g, o, none⟩) hSq.1).trans hg; have q1 := (World.cell?_of_block (w := w) (a := ⟨b, 0, none⟩) hSq.2).trans hb; go_simp <;> first | with_reducible rfl | rfl)
  simp only [Act.put, List.setIfInBounds_toArray, List.set_cons_zero, List.set_cons_succ]
  refine take_on (i := 4) (v := ?_) rfl rfl (by kernel_rfl) (by kernel_rfl) (by kernel_rfl) (fun _ _ _ h => h) rfl ?_ hHeld ?_
  rotate_left
  · (intro wq hSq; have q0 := (World.cell?_of_block (w := w) (a := ⟨g, o, none⟩) hSq.1).trans hg; have q1 := (World.cell?_of_block (w := w) (a := ⟨b, 0, none⟩) hSq.2).trans hb; go_simp <;> first | with_reducible rfl | rfl)
  simp only [Act.put, List.setIfInBounds_toArray, List.set_cons_zero, List.set_cons_succ]
  refine take_one (i := 5) rfl (by kernel_rfl) (fun K hK => ?_)
  go_simp
  refine hc.mono ?_; rintro e w2 ⟨rfl, hm⟩
  try go_wp2_with fail
  refine hK.out _ _ ?_ (fun hHeld => ?_)
  · exact ⟨hm.chg.block g hgl hgn, hm.chg.block b hbl hbn⟩
  clear hK K
  try simp only [Act.put, List.setIfInBounds_toArray, List.set_cons_zero, List.set_cons_succ]
  refine take_on (i := 6) (v := ?_) rfl rfl (by kernel_rfl) (by kernel_rfl) (by kernel_rfl) (fun _ _ _ h => h) rfl ?_ hHeld ?_
  rotate_left
  · (intro wq hSq; have q0 := (World.cell?_of_block (w := w) (a := ⟨g, o, none⟩) hSq.1).trans hg; have q1 := (World.cell?_of_block (w := w) (a := ⟨b, 0, none⟩) hSq.2).trans hb; go_simp <;> first | with_reducible rfl | rfl)
  simp only [Act.put, List.setIfInBounds_toArray, List.set_cons_zero, List.set_cons_succ]
  refine wpAnyH_done (by kernel_rfl) ?_ _
  go_wp2_with fail
  go_ret
  exact ⟨rfl, Moved.behind hH.out (Below.refl _ _).drew hm⟩

set_option maxRecDepth 100000 in
set_option maxHeartbeats 400000 in
theorem close_sync {g o qi : Nat} {u : Value} {B : Nat} {bs : List Nat} {k : Nat} (w : World) (hg : w.cell? ⟨g, o, none⟩ = some (.pointer (some ⟨qi, 0, none⟩))) (h : Ar w qi 0 u B bs k) :
    Calls Try.prog 65 #[.pointer (some ⟨g, o, none⟩)] w fun e w' => e = .returned (.int .i64 0) ∧ Moved w qi 0 u B bs bs.length w' := by
  have hc := sync_any w h
  have hH := hide_it h
  clear h
  go_enter Try.func65, Try.ntmps65
  go_wp2_with fail
  refine hc.mono ?_
  rintro e w2 ⟨rfl, hm⟩
  go_wp2_with fail
  go_ret
  exact ⟨rfl, hm⟩

/-- The cells of an area of the disk in a world behind. -/
theorem Dk.later (h : Dk w F p am n s g C q v) {w1 : World} (hb : Below w.heap.size w w1) {i : Nat} (hi : i < n) : w1.cell? ⟨g, i * 5, none⟩ = some (.pointer (some ⟨q i, 0, none⟩)) ∧ g < w1.heap.size ∧ Ar w1 (q i) 0 (v i) (s i).B (s i).bs (s i).k ∧ ¬ Ft (q i) (v i) g :=
  ⟨((h.below hb).at_ hi).1, (h.below hb).glt, (h.ar i hi).below hb, (h.sep i hi).2⟩

set_option maxRecDepth 100000 in
set_option maxHeartbeats 800000 in
theorem append_box {E : Int} {s' : Nat → Pt} (hF : ∀ j, F j → j < w.heap.size) (i : Nat) (x : Value) (a : Option Addr) (l c : Nat) (hx : x = .slice a l c)
    (ho : Calls Try.prog 63 #[.pointer (some ⟨p, 0, none⟩), .int .i64 (i : Int), .func (.func 64) #[] #[.pointer (some ⟨w.heap.size, 0, none⟩)]] (w.alloc (.cells #[x] 23)) fun e w' => Opd (w.alloc (.cells #[x] 23)) F p am n s' E e w') :
    Calls Try.prog 28 #[.pointer (some ⟨p, 0, none⟩), .int .i64 (i : Int), x] w fun e w' => Opd w F p am n s' E e w' := by
  have hb0 : Below w.heap.size w (w.alloc (.cells #[x] 23)) := (Below.refl _ _).alloc (Nat.le_refl _) _
  have hmf : ∀ (fn : Fn) (first cap : Array Value) (w : World), (Instr.makeFunc fn first cap).run Try.prog w = .ok (.func fn first cap) w := fun _ _ _ _ => rfl
  subst hx
  go_enter Try.func28, Try.ntmps28
  go_wp2_with fail
  refine ho.mono ?_
  rintro e w2 ⟨rfl, hw⟩
  go_wp2_with fail
  go_ret
  exact ⟨rfl, Went.behind hb0 hw hF⟩

set_option maxRecDepth 100000 in
set_option maxHeartbeats 800000 in
theorem cut_box {E : Int} {s' : Nat → Pt} (hF : ∀ j, F j → j < w.heap.size) (i : Nat) (x : Value) (A : Int) (hx : x = .int .i64 A)
    (ho : Calls Try.prog 63 #[.pointer (some ⟨p, 0, none⟩), .int .i64 (i : Int), .func (.func 83) #[] #[.pointer (some ⟨w.heap.size, 0, none⟩)]] (w.alloc (.cells #[x] 3)) fun e w' => Opd (w.alloc (.cells #[x] 3)) F p am n s' E e w') :
    Calls Try.prog 61 #[.pointer (some ⟨p, 0, none⟩), .int .i64 (i : Int), x] w fun e w' => Opd w F p am n s' E e w' := by
  have hb0 : Below w.heap.size w (w.alloc (.cells #[x] 3)) := (Below.refl _ _).alloc (Nat.le_refl _) _
  have hmf : ∀ (fn : Fn) (first cap : Array Value) (w : World), (Instr.makeFunc fn first cap).run Try.prog w = .ok (.func fn first cap) w := fun _ _ _ _ => rfl
  subst hx
  go_enter Try.func61, Try.ntmps61
  go_wp2_with fail
  refine ho.mono ?_
  rintro e w2 ⟨rfl, hw⟩
  go_wp2_with fail
  go_ret
  exact ⟨rfl, Went.behind hb0 hw hF⟩

set_option maxRecDepth 100000 in
set_option maxHeartbeats 800000 in
theorem trim_box {E : Int} {s' : Nat → Pt} (hF : ∀ j, F j → j < w.heap.size) (i : Nat) (x : Value) (A : Int) (hx : x = .int .i64 A)
    (ho : Calls Try.prog 63 #[.pointer (some ⟨p, 0, none⟩), .int .i64 (i : Int), .func (.func 84) #[] #[.pointer (some ⟨w.heap.size, 0, none⟩)]] (w.alloc (.cells #[x] 3)) fun e w' => Opd (w.alloc (.cells #[x] 3)) F p am n s' E e w') :
    Calls Try.prog 62 #[.pointer (some ⟨p, 0, none⟩), .int .i64 (i : Int), x] w fun e w' => Opd w F p am n s' E e w' := by
  have hb0 : Below w.heap.size w (w.alloc (.cells #[x] 3)) := (Below.refl _ _).alloc (Nat.le_refl _) _
  have hmf : ∀ (fn : Fn) (first cap : Array Value) (w : World), (Instr.makeFunc fn first cap).run Try.prog w = .ok (.func fn first cap) w := fun _ _ _ _ => rfl
  subst hx
  go_enter Try.func62, Try.ntmps62
  go_wp2_with fail
  refine ho.mono ?_
  rintro e w2 ⟨rfl, hw⟩
  go_wp2_with fail
  go_ret
  exact ⟨rfl, Went.behind hb0 hw hF⟩

end

end Go.Proofs.Ytdodnegdpdhbiaa
