/- A queue of pairs in memory; Len, First, New. -/
import Derived.Test.YtomfhbngpikjeabQp1
import Derived.Laws.ResultCell
namespace Go.Proofs.Ytomfhbngpikjeab
open Go.RowKit

/-- A pair as a value. -/
abbrev valP (p : Int × Bool) : Value := .agg #[.int .i64 p.1, .bool p.2]
theorem infoQP : (Try.prog.info? 28).map (fun i => (i.zero, i.size, i.bytes)) = some (some (.agg #[.int .i64 0, .bool false]), 2, 16) := by kernel_rfl

/-- A pair in a place of its own. -/
def PairB (w : World) (g : Nat) (p : Int × Bool) : Prop := w.heap[g]? = some (.cells #[.int .i64 p.1, .bool p.2] 28 (0, 0))
theorem PairB.lt {w : World} {g : Nat} {p : Int × Bool} (h : PairB w g p) : g < w.heap.size := (Array.getElem?_eq_some_iff.1 h).1
theorem PairB.below {w w' : World} {B g : Nat} {p : Int × Bool} (h : PairB w g p) (hb : Below B w w') (hg : g < B) : PairB w' g p := by
  unfold PairB; rw [hb.block g hg]; exact h
theorem PairB.new (w : World) (p : Int × Bool) : PairB (w.alloc (.cells #[.int .i64 p.1, .bool p.2] 28)) w.heap.size p := heap_alloc_new w _
theorem PairB.cells {w : World} {g : Nat} {p : Int × Bool} (h : PairB w g p) : w.cell? ⟨g, 0, none⟩ = some (.int .i64 p.1) ∧ w.cell? ⟨g, 1, none⟩ = some (.bool p.2) ∧ w.frozen? ⟨g, 0, none⟩ = false ∧ w.frozen? ⟨g, 1, none⟩ = false :=
  ⟨cell_of_row _ _ _ _ _ _ h, cell_of_row _ _ _ _ _ _ h, frozen_of_row w g 0 _ _ h, frozen_of_row w g 1 _ _ h⟩
theorem PairB.all {w : World} {g : Nat} {q : Int × Bool} (h : PairB w g q) (p : Int × Bool) : PairB ((w.setCell ⟨g, 0, none⟩ (.int .i64 p.1)).setCell ⟨g, 1, none⟩ (.bool p.2)) g p := by
  have h0 : (w.setCell ⟨g, 0, none⟩ (.int .i64 p.1)).heap[g]? = some (.cells #[.int .i64 p.1, .bool q.2] 28 (0, 0)) := heap_setCell_same _ g 0 _ _ _ h
  exact heap_setCell_same _ g 1 _ _ _ h0
theorem ret_pair2 {fn : Func} {p u : Tmp} (h : fn.results = #[.cell p 28, .tmp u]) (tmps : Array Value) (w : World) (g : Nat) (x : Int × Bool) (v : Value) (hp : tmps.getD p undef = .pointer (some ⟨g, 0, none⟩)) (hv : tmps.getD u undef = v) (hb : PairB w g x) :
    (results fn tmps).run Try.prog w = .ok (.tuple #[valP x, v]) w := by
  have hp' : tmps[p]?.getD undef = .pointer (some ⟨g, 0, none⟩) := by simpa using hp
  have hv' : tmps[u]?.getD undef = v := by simpa using hv
  rw [results_cell_tmp h]
  simp [hp', hv', asAddr, Result.andThen, run_loadVar_row w g 28 28 _ (0, 0) _ hb Try.underlying28 rfl (by kernel_rfl)]

/-- The queue at block b, its ring of the length R at block g (none: g is b), its things xs. -/
structure QrP (w : World) (b g most R f : Nat) (xs : List (Int × Bool)) : Prop where
  blk : ∃ v, w.heap[b]? = some (.cells #[.int .i64 (most : Int), .int .i64 (f : Int), .int .i64 (xs.length : Int), v] 60 (0, 0)) ∧
    ((R = 0 ∧ f = 0 ∧ xs = [] ∧ v = .slice none 0 0 ∧ g = b) ∨ ∃ cur : List (Int × Bool), v = .slice (some ⟨g, 0, none⟩) R R ∧ g ≠ b ∧ cur.length = R ∧ w.heap[g]? = some (.cells (flP cur).toArray 28 (0, 0)) ∧ LaidP cur f xs)
  room : R ≤ most
  most_le : most ≤ 65536
/-- The queue at block b with its things. -/
def QuP (w : World) (b g most : Nat) (xs : List (Int × Bool)) : Prop := ∃ R f, QrP w b g most R f xs

theorem QrP.len {w : World} {b g most R f : Nat} {xs : List (Int × Bool)} (h : QrP w b g most R f xs) : xs.length ≤ R := by
  obtain ⟨v, _, ⟨_, _, rfl, _⟩ | ⟨cur, _, _, hR, _, hl⟩⟩ := h.blk
  · simp
  · have := hl.len; omega
theorem QrP.lt {w : World} {b g most R f : Nat} {xs : List (Int × Bool)} (h : QrP w b g most R f xs) : b < w.heap.size ∧ g < w.heap.size := by
  obtain ⟨v, hb, ⟨_, _, _, _, rfl⟩ | ⟨cur, _, _, _, hg, _⟩⟩ := h.blk
  · exact ⟨(Array.getElem?_eq_some_iff.1 hb).1, (Array.getElem?_eq_some_iff.1 hb).1⟩
  · exact ⟨(Array.getElem?_eq_some_iff.1 hb).1, (Array.getElem?_eq_some_iff.1 hg).1⟩
theorem QrP.keep {w w' : World} {b g most R f : Nat} {xs : List (Int × Bool)} (h : QrP w b g most R f xs) (hb : w'.heap[b]? = w.heap[b]?) (hg : w'.heap[g]? = w.heap[g]?) : QrP w' b g most R f xs := by
  refine ⟨?_, h.room, h.most_le⟩
  rw [hb, hg]
  exact h.blk
theorem QuP.lt {w : World} {b g most : Nat} {xs : List (Int × Bool)} (h : QuP w b g most xs) : b < w.heap.size ∧ g < w.heap.size := by
  obtain ⟨R, f, h⟩ := h
  exact h.lt
theorem QuP.keep {w w' : World} {b g most : Nat} {xs : List (Int × Bool)} (h : QuP w b g most xs) (hb : w'.heap[b]? = w.heap[b]?) (hg : w'.heap[g]? = w.heap[g]?) : QuP w' b g most xs := by
  obtain ⟨R, f, h⟩ := h
  exact ⟨R, f, h.keep hb hg⟩
theorem QuP.below {w w' : World} {b g most : Nat} {xs : List (Int × Bool)} (h : QuP w b g most xs) (hb : Below w.heap.size w w') : QuP w' b g most xs :=
  h.keep (hb.block _ h.lt.1) (hb.block _ h.lt.2)
theorem QuP.len {w : World} {b g most : Nat} {xs : List (Int × Bool)} (h : QuP w b g most xs) : xs.length ≤ most ∧ most ≤ 65536 := by
  obtain ⟨R, f, h⟩ := h
  have := h.len
  have := h.room
  exact ⟨by omega, h.most_le⟩

/-- The cells of the queue's block. -/
theorem QrP.cells {w : World} {b g most R f : Nat} {xs : List (Int × Bool)} (h : QrP w b g most R f xs) : ∃ v, w.cell? ⟨b, 0, none⟩ = some (.int .i64 (most : Int)) ∧ w.cell? ⟨b, 1, none⟩ = some (.int .i64 (f : Int)) ∧ w.cell? ⟨b, 2, none⟩ = some (.int .i64 (xs.length : Int)) ∧ w.cell? ⟨b, 3, none⟩ = some v ∧
    ((R = 0 ∧ f = 0 ∧ xs = [] ∧ v = .slice none 0 0 ∧ g = b) ∨ ∃ cur : List (Int × Bool), v = .slice (some ⟨g, 0, none⟩) R R ∧ g ≠ b ∧ cur.length = R ∧ w.heap[g]? = some (.cells (flP cur).toArray 28 (0, 0)) ∧ LaidP cur f xs) := by
  obtain ⟨v, hb, hr⟩ := h.blk
  exact ⟨v, cell_of_row _ _ _ _ _ _ hb, cell_of_row _ _ _ _ _ _ hb, cell_of_row _ _ _ _ _ _ hb, cell_of_row _ _ _ _ _ _ hb, hr⟩

set_option maxRecDepth 100000 in
set_option maxHeartbeats 400000 in
theorem lenP_any (b g most : Nat) (xs : List (Int × Bool)) (w : World) (h : QuP w b g most xs) :
    Calls Try.prog 30 #[.pointer (some ⟨b, 0, none⟩)] w fun e w' => e = .returned (.int .i64 (xs.length : Int)) ∧ w' = w := by
  obtain ⟨R, f, h⟩ := h
  obtain ⟨v, _, _, c2, _, _⟩ := h.cells
  clear h
  go_enter Try.func30, Try.ntmps30
  go_wp2
  go_ret
  exact ⟨rfl, rfl⟩
set_option maxRecDepth 100000 in
set_option maxHeartbeats 400000 in
theorem lenP_none (w : World) : Calls Try.prog 30 #[.pointer none] w fun e w' => e = .returned (.int .i64 0) ∧ w' = w := by
  go_enter Try.func30, Try.ntmps30
  go_wp2
  go_ret
  exact ⟨rfl, rfl⟩

set_option maxRecDepth 100000 in
set_option maxHeartbeats 1000000 in
theorem firstP_cons (b g most : Nat) (x : Int × Bool) (xs : List (Int × Bool)) (w : World) (h : QuP w b g most (x :: xs)) :
    Calls Try.prog 23 #[.pointer (some ⟨b, 0, none⟩)] w fun e w' => e = .returned (.tuple #[valP x, .bool true]) ∧ Below w.heap.size w w' := by
  obtain ⟨W, hW⟩ : ∃ W, W = w.alloc (.cells #[.int .i64 0, .bool false] 28) := ⟨_, rfl⟩
  have hB : Below w.heap.size w W := by rw [hW]; exact (Below.refl _ _).alloc (Nat.le_refl _) _
  have hN : PairB W w.heap.size (0, false) := by rw [hW]; exact PairB.new w (0, false)
  have hl := lenP_any b g most (x :: xs) W (h.below hB)
  have hlt := h.lt
  obtain ⟨R, f, h⟩ := h
  obtain ⟨v, c0, c1, c2, c3, ⟨_, _, h0, _⟩ | ⟨cur, rfl, hgb, hR, hg, hla⟩⟩ := h.cells
  · cases h0
  have hf := hla.at_
  have hfR : f < R := by omega
  have hfi : (f : Int) < (R : Int) := by omega
  obtain ⟨hx1, hx2⟩ : w.cell? ⟨g, f * 2, none⟩ = some (.int .i64 x.1) ∧ w.cell? ⟨g, f * 2 + 1, none⟩ = some (.bool x.2) := by
    have := flP_at cur f x hla.first
    rw [cell_of_row _ _ _ _ _ _ hg, cell_of_row _ _ _ _ _ _ hg, List.getElem?_toArray, List.getElem?_toArray]
    exact this
  obtain ⟨hbl, hgl⟩ := hlt
  have d1 := (hB.cell (p := ⟨b, 1, none⟩) hbl).trans c1
  have d3 := (hB.cell (p := ⟨b, 3, none⟩) hbl).trans c3
  have x1 := (hB.cell (p := ⟨g, f * 2, none⟩) hgl).trans hx1
  have x2 := (hB.cell (p := ⟨g, f * 2 + 1, none⟩) hgl).trans hx2
  obtain ⟨y0, y1, z0, z1⟩ := hN.cells
  obtain ⟨n, hn⟩ : ∃ n, n = (x :: xs).length := ⟨_, rfl⟩
  have hn0 : ¬ (n : Int) = 0 := by rw [hn]; simp; omega
  rw [← hn] at hl c2
  have HB := hide_it hB
  have HN := hide_it hN
  clear h hla hg hn hR hf hB hN c0 c1 c2 c3 hx1 hx2
  go_enter Try.func23, Try.ntmps23
  go_wp2_with fail
  rw [← hW]
  refine hl.mono ?_
  rintro e w1 ⟨rfl, hq⟩
  have hq2 := hq.symm
  subst hq2
  clear hq hl hW
  go_wp2_with fail
  refine wp_region_held_drew (S := (fun w' => w'.heap[b]? = W.heap[b]? ∧ w'.heap[g]? = W.heap[g]?)) (by kernel_rfl) ?_ (fun hHeld => ?_)
  · exact ⟨rfl, rfl⟩
  refine take_on (i := 0) (v := ?_) rfl rfl (by kernel_rfl) (by kernel_rfl) (by kernel_rfl) (fun _ _ _ h => h) rfl ?_ hHeld ?_
  rotate_left
  · (intro wq hSq; have q1 := (World.cell?_of_block (w := W) (a := ⟨b, 1, none⟩) hSq.1).trans d1; have q3 := (World.cell?_of_block (w := W) (a := ⟨b, 3, none⟩) hSq.1).trans d3; have q4 := (World.cell?_of_block (w := W) (a := ⟨g, f * 2, none⟩) hSq.2).trans x1; have q5 := (World.cell?_of_block (w := W) (a := ⟨g, f * 2 + 1, none⟩) hSq.2).trans x2; go_simp <;> first | with_reducible rfl | rfl)
  simp only [Act.put, List.setIfInBounds_toArray, List.set_cons_zero, List.set_cons_succ]
  refine take_on (i := 1) (v := ?_) rfl rfl (by kernel_rfl) (by kernel_rfl) (by kernel_rfl) (fun _ _ _ h => h) rfl ?_ hHeld ?_
  rotate_left
  · (intro wq hSq; have q1 := (World.cell?_of_block (w := W) (a := ⟨b, 1, none⟩) hSq.1).trans d1; have q3 := (World.cell?_of_block (w := W) (a := ⟨b, 3, none⟩) hSq.1).trans d3; have q4 := (World.cell?_of_block (w := W) (a := ⟨g, f * 2, none⟩) hSq.2).trans x1; have q5 := (World.cell?_of_block (w := W) (a := ⟨g, f * 2 + 1, none⟩) hSq.2).trans x2; go_simp <;> first | with_reducible rfl | rfl)
  simp only [Act.put, List.setIfInBounds_toArray, List.set_cons_zero, List.set_cons_succ]
  refine take_on (i := 2) (v := ?_) rfl rfl (by kernel_rfl) (by kernel_rfl) (by kernel_rfl) (fun _ _ _ h => h) rfl ?_ hHeld ?_
  rotate_left
  · (intro wq hSq; have q1 := (World.cell?_of_block (w := W) (a := ⟨b, 1, none⟩) hSq.1).trans d1; have q3 := (World.cell?_of_block (w := W) (a := ⟨b, 3, none⟩) hSq.1).trans d3; have q4 := (World.cell?_of_block (w := W) (a := ⟨g, f * 2, none⟩) hSq.2).trans x1; have q5 := (World.cell?_of_block (w := W) (a := ⟨g, f * 2 + 1, none⟩) hSq.2).trans x2; go_simp <;> first | with_reducible rfl | rfl)
  simp only [Act.put, List.setIfInBounds_toArray, List.set_cons_zero, List.set_cons_succ]
  refine take_on (i := 3) (v := ?_) rfl rfl (by kernel_rfl) (by kernel_rfl) (by kernel_rfl) (fun _ _ _ h => h) rfl ?_ hHeld ?_
  rotate_left
  · (intro wq hSq; have q1 := (World.cell?_of_block (w := W) (a := ⟨b, 1, none⟩) hSq.1).trans d1; have q3 := (World.cell?_of_block (w := W) (a := ⟨b, 3, none⟩) hSq.1).trans d3; have q4 := (World.cell?_of_block (w := W) (a := ⟨g, f * 2, none⟩) hSq.2).trans x1; have q5 := (World.cell?_of_block (w := W) (a := ⟨g, f * 2 + 1, none⟩) hSq.2).trans x2; go_simp <;> first | with_reducible rfl | rfl)
  simp only [Act.put, List.setIfInBounds_toArray, List.set_cons_zero, List.set_cons_succ]
  refine take_on (i := 4) (v := ?_) rfl rfl (by kernel_rfl) (by kernel_rfl) (by kernel_rfl) (fun _ _ _ h => h) rfl ?_ hHeld ?_
  rotate_left
  · (intro wq hSq; have q1 := (World.cell?_of_block (w := W) (a := ⟨b, 1, none⟩) hSq.1).trans d1; have q3 := (World.cell?_of_block (w := W) (a := ⟨b, 3, none⟩) hSq.1).trans d3; have q4 := (World.cell?_of_block (w := W) (a := ⟨g, f * 2, none⟩) hSq.2).trans x1; have q5 := (World.cell?_of_block (w := W) (a := ⟨g, f * 2 + 1, none⟩) hSq.2).trans x2; go_simp <;> first | with_reducible rfl | rfl)
  simp only [Act.put, List.setIfInBounds_toArray, List.set_cons_zero, List.set_cons_succ]
  refine take_on (i := 5) (v := ?_) rfl rfl (by kernel_rfl) (by kernel_rfl) (by kernel_rfl) (fun _ _ _ h => h) rfl ?_ hHeld ?_
  rotate_left
  · (intro wq hSq; have q1 := (World.cell?_of_block (w := W) (a := ⟨b, 1, none⟩) hSq.1).trans d1; have q3 := (World.cell?_of_block (w := W) (a := ⟨b, 3, none⟩) hSq.1).trans d3; have q4 := (World.cell?_of_block (w := W) (a := ⟨g, f * 2, none⟩) hSq.2).trans x1; have q5 := (World.cell?_of_block (w := W) (a := ⟨g, f * 2 + 1, none⟩) hSq.2).trans x2; go_simp <;> first | with_reducible rfl | rfl)
  simp only [Act.put, List.setIfInBounds_toArray, List.set_cons_zero, List.set_cons_succ]
  refine take_on (i := 6) (v := ?_) rfl rfl (by kernel_rfl) (by kernel_rfl) (by kernel_rfl) (fun _ _ _ h => h) rfl ?_ hHeld ?_
  rotate_left
  · (intro wq hSq; have q1 := (World.cell?_of_block (w := W) (a := ⟨b, 1, none⟩) hSq.1).trans d1; have q3 := (World.cell?_of_block (w := W) (a := ⟨b, 3, none⟩) hSq.1).trans d3; have q4 := (World.cell?_of_block (w := W) (a := ⟨g, f * 2, none⟩) hSq.2).trans x1; have q5 := (World.cell?_of_block (w := W) (a := ⟨g, f * 2 + 1, none⟩) hSq.2).trans x2; go_simp <;> first | with_reducible rfl | rfl)
  simp only [Act.put, List.setIfInBounds_toArray, List.set_cons_zero, List.set_cons_succ]
  refine take_on (i := 7) (v := ?_) rfl rfl (by kernel_rfl) (by kernel_rfl) (by kernel_rfl) (fun _ _ _ h => h) rfl ?_ hHeld ?_
  rotate_left
  · (intro wq hSq; have q1 := (World.cell?_of_block (w := W) (a := ⟨b, 1, none⟩) hSq.1).trans d1; have q3 := (World.cell?_of_block (w := W) (a := ⟨b, 3, none⟩) hSq.1).trans d3; have q4 := (World.cell?_of_block (w := W) (a := ⟨g, f * 2, none⟩) hSq.2).trans x1; have q5 := (World.cell?_of_block (w := W) (a := ⟨g, f * 2 + 1, none⟩) hSq.2).trans x2; go_simp <;> first | with_reducible rfl | rfl)
  simp only [Act.put, List.setIfInBounds_toArray, List.set_cons_zero, List.set_cons_succ]
  refine take_on (i := 8) (v := ?_) rfl rfl (by kernel_rfl) (by kernel_rfl) (by kernel_rfl) (fun _ _ _ h => h) rfl ?_ hHeld ?_
  rotate_left
  · (intro wq hSq; have q1 := (World.cell?_of_block (w := W) (a := ⟨b, 1, none⟩) hSq.1).trans d1; have q3 := (World.cell?_of_block (w := W) (a := ⟨b, 3, none⟩) hSq.1).trans d3; have q4 := (World.cell?_of_block (w := W) (a := ⟨g, f * 2, none⟩) hSq.2).trans x1; have q5 := (World.cell?_of_block (w := W) (a := ⟨g, f * 2 + 1, none⟩) hSq.2).trans x2; go_simp <;> first | with_reducible rfl | rfl)
  simp only [Act.put, List.setIfInBounds_toArray, List.set_cons_zero, List.set_cons_succ]
  refine take_on (i := 9) (v := ?_) rfl rfl (by kernel_rfl) (by kernel_rfl) (by kernel_rfl) (fun _ _ _ h => h) rfl ?_ hHeld ?_
  rotate_left
  · (intro wq hSq; have q1 := (World.cell?_of_block (w := W) (a := ⟨b, 1, none⟩) hSq.1).trans d1; have q3 := (World.cell?_of_block (w := W) (a := ⟨b, 3, none⟩) hSq.1).trans d3; have q4 := (World.cell?_of_block (w := W) (a := ⟨g, f * 2, none⟩) hSq.2).trans x1; have q5 := (World.cell?_of_block (w := W) (a := ⟨g, f * 2 + 1, none⟩) hSq.2).trans x2; go_simp <;> first | with_reducible rfl | rfl)
  simp only [Act.put, List.setIfInBounds_toArray, List.set_cons_zero, List.set_cons_succ]
  refine take_one (i := 10) rfl (by kernel_rfl) (fun K hK => ?_)
  go_simp
  skip
  try go_wp2_with fail
  refine hK.out _ _ ?_ (fun hHeld => ?_)
  · exact ⟨((Below.heap_setCell _ _ _ _ (by simp; omega)).trans (Below.heap_setCell _ _ _ _ (by simp; omega))).trans hHeld.1, ((Below.heap_setCell _ _ _ _ (by simp; omega)).trans (Below.heap_setCell _ _ _ _ (by simp; omega))).trans hHeld.2⟩
  clear hK K
  try simp only [Act.put, List.setIfInBounds_toArray, List.set_cons_zero, List.set_cons_succ]
  refine take_on (i := 11) (v := ?_) rfl rfl (by kernel_rfl) (by kernel_rfl) (by kernel_rfl) (fun _ _ _ h => h) rfl ?_ hHeld ?_
  rotate_left
  · (intro wq hSq; have q1 := (World.cell?_of_block (w := W) (a := ⟨b, 1, none⟩) hSq.1).trans d1; have q3 := (World.cell?_of_block (w := W) (a := ⟨b, 3, none⟩) hSq.1).trans d3; have q4 := (World.cell?_of_block (w := W) (a := ⟨g, f * 2, none⟩) hSq.2).trans x1; have q5 := (World.cell?_of_block (w := W) (a := ⟨g, f * 2 + 1, none⟩) hSq.2).trans x2; go_simp <;> first | with_reducible rfl | rfl)
  simp only [Act.put, List.setIfInBounds_toArray, List.set_cons_zero, List.set_cons_succ]
  refine wpAnyH_done (by kernel_rfl) ?_ _
  go_wp2_with fail
  refine bodyPost_ret (ret_pair2 rfl _ _ w.heap.size x _ rfl rfl ((HN.out.all x))) rfl ?_
  exact ⟨rfl, ((HB.out.setCell (Nat.le_refl _) _).setCell (Nat.le_refl _) _).drew⟩

set_option maxRecDepth 100000 in
set_option maxHeartbeats 400000 in
theorem newP_any (most : Nat) (w : World) (h : most ≤ 65536) :
    Calls Try.prog 5 #[.int .i64 (most : Int)] w fun e w' => e = .returned (.tuple #[.pointer (some ⟨w.heap.size, 0, none⟩), .int .i64 0]) ∧ QuP w' w.heap.size w.heap.size most [] ∧ Below w.heap.size w w' := by
  have h1 : ¬ (most : Int) < 0 := by omega
  have h2 : ¬ (65536 : Int) < (most : Int) := by omega
  have hh := heap_alloc_new w (.cells #[.int .i64 (most : Int), .int .i64 0, .int .i64 0, .slice none 0 0] 60)
  have hb := (Below.refl w.heap.size w).alloc (Nat.le_refl _) (.cells #[.int .i64 (most : Int), .int .i64 0, .int .i64 0, .slice none 0 0] 60)
  go_enter Try.func5, Try.ntmps5
  go_wp2
  refine bodyPost_ret (v := .tuple #[.pointer (some ⟨w.heap.size, 0, none⟩), .int .i64 0]) (by simp [results, Try.results5, go_sem]) rfl ?_
  exact ⟨rfl, ⟨0, 0, ⟨_, hh, .inl ⟨rfl, rfl, rfl, rfl, rfl⟩⟩, by omega, h⟩, hb⟩

end Go.Proofs.Ytomfhbngpikjeab
