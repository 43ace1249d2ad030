/- The law's own items: what comes in as bits is handed to the program. -/
import Derived.Test.YtelcfmjhbjnkoaaOw15
namespace Go.Proofs.Ytelcfmjhbjnkoaa
open Go.RowKit

attribute [local go_sem] st_float st_complex fromBits toBits

/-- An item as the law takes it: its numbers by their bits. -/
abbrev valR (x : It) : Value := .agg #[.int .i64 x.k, .bool x.b, .int .i64 x.n, .int .u64 (x.f : Int), .int .u64 (x.r : Int), .int .u64 (x.i : Int), .string x.t]
/-- One that lies in a block of its own. -/
def RawB (w : World) (g : Nat) (x : It) : Prop := w.heap[g]? = some (.cells #[.int .i64 x.k, .bool x.b, .int .i64 x.n, .int .u64 (x.f : Int), .int .u64 (x.r : Int), .int .u64 (x.i : Int), .string x.t] 39 (0, 0))
theorem RawB.lt {w : World} {g : Nat} {x : It} (h : RawB w g x) : g < w.heap.size := (Array.getElem?_eq_some_iff.1 h).1
theorem RawB.below {w w' : World} {B g : Nat} {x : It} (h : RawB w g x) (hb : Below B w w') (hg : g < B) : RawB w' g x := by
  unfold RawB; rw [hb.block g hg]; exact h
theorem RawB.cells {w : World} {g : Nat} {x : It} (h : RawB w g x) : w.cell? ⟨g, 0, none⟩ = some (.int .i64 x.k) ∧ w.cell? ⟨g, 1, none⟩ = some (.bool x.b) ∧ w.cell? ⟨g, 2, none⟩ = some (.int .i64 x.n) ∧
    w.cell? ⟨g, 3, none⟩ = some (.int .u64 (x.f : Int)) ∧ w.cell? ⟨g, 4, none⟩ = some (.int .u64 (x.r : Int)) ∧ w.cell? ⟨g, 5, none⟩ = some (.int .u64 (x.i : Int)) ∧ w.cell? ⟨g, 6, none⟩ = some (.string x.t) :=
  ⟨by rw [cell_of_row _ _ _ _ _ _ h]; rfl, by rw [cell_of_row _ _ _ _ _ _ h]; rfl, by rw [cell_of_row _ _ _ _ _ _ h]; rfl, by rw [cell_of_row _ _ _ _ _ _ h]; rfl, by rw [cell_of_row _ _ _ _ _ _ h]; rfl, by rw [cell_of_row _ _ _ _ _ _ h]; rfl, by rw [cell_of_row _ _ _ _ _ _ h]; rfl⟩

set_option maxRecDepth 100000 in
set_option maxHeartbeats 1000000 in
theorem lawItem_any (x : It) (w : World) :
    Calls Try.prog 10 #[valR x] w fun e w' => e = .returned (valI x) ∧ Below w.heap.size w w' := by
  obtain ⟨k, b, n, f, r, i, t⟩ := x
  have R0 : RawB (w.alloc (.cells #[.int .i64 k, .bool b, .int .i64 n, .int .u64 (f : Int), .int .u64 (r : Int), .int .u64 (i : Int), .string t] 39)) w.heap.size ⟨k, b, n, f, r, i, t⟩ := heap_alloc_new w _
  have R1 : ∀ ob, RawB ((w.alloc (.cells #[.int .i64 k, .bool b, .int .i64 n, .int .u64 (f : Int), .int .u64 (r : Int), .int .u64 (i : Int), .string t] 39)).alloc ob) w.heap.size ⟨k, b, n, f, r, i, t⟩ := fun ob => R0.below ((Below.refl _ _).alloc (Nat.le_refl _) _) (by simp)
  have hfin : ∀ ob, Below w.heap.size w ((w.alloc (.cells #[.int .i64 k, .bool b, .int .i64 n, .int .u64 (f : Int), .int .u64 (r : Int), .int .u64 (i : Int), .string t] 39)).alloc ob) := fun ob => ((Below.refl _ _).alloc (Nat.le_refl _) _).alloc (by simp) _
  clear R0
  go_enter Try.func10, Try.ntmps10
  go_wp2_with fail
  refine wp_region_held_drew (S := (fun w' => RawB w' w.heap.size ⟨k, b, n, f, r, i, t⟩)) (by kernel_rfl) ?_ (fun hHeld => ?_)
  · exact R1 _
  refine take_on (i := 0) (v := ?_) rfl rfl (by kernel_rfl) (by kernel_rfl) (by kernel_rfl) (fun _ _ _ h => h) rfl ?_ hHeld ?_
  rotate_left
  · (intro wq hSq; obtain ⟨q0, q1, q2, q3, q4, q5, q6⟩ := hSq.cells; go_simp <;> first | with_reducible rfl | rfl)
  simp only [Act.put, List.setIfInBounds_toArray, List.set_cons_zero, List.set_cons_succ]
  refine take_on (i := 1) (v := ?_) rfl rfl (by kernel_rfl) (by kernel_rfl) (by kernel_rfl) (fun _ _ _ h => h) rfl ?_ hHeld ?_
  rotate_left
  · (intro wq hSq; obtain ⟨q0, q1, q2, q3, q4, q5, q6⟩ := hSq.cells; go_simp <;> first | with_reducible rfl | rfl)
  simp only [Act.put, List.setIfInBounds_toArray, List.set_cons_zero, List.set_cons_succ]
  refine take_on (i := 2) (v := ?_) rfl rfl (by kernel_rfl) (by kernel_rfl) (by kernel_rfl) (fun _ _ _ h => h) rfl ?_ hHeld ?_
  rotate_left
  · (intro wq hSq; obtain ⟨q0, q1, q2, q3, q4, q5, q6⟩ := hSq.cells; go_simp <;> first | with_reducible rfl | rfl)
  simp only [Act.put, List.setIfInBounds_toArray, List.set_cons_zero, List.set_cons_succ]
  refine take_on (i := 3) (v := ?_) rfl rfl (by kernel_rfl) (by kernel_rfl) (by kernel_rfl) (fun _ _ _ h => h) rfl ?_ hHeld ?_
  rotate_left
  · (intro wq hSq; obtain ⟨q0, q1, q2, q3, q4, q5, q6⟩ := hSq.cells; go_simp <;> first | with_reducible rfl | rfl)
  simp only [Act.put, List.setIfInBounds_toArray, List.set_cons_zero, List.set_cons_succ]
  refine take_on (i := 4) (v := ?_) rfl rfl (by kernel_rfl) (by kernel_rfl) (by kernel_rfl) (fun _ _ _ h => h) rfl ?_ hHeld ?_
  rotate_left
  · (intro wq hSq; obtain ⟨q0, q1, q2, q3, q4, q5, q6⟩ := hSq.cells; go_simp <;> first | with_reducible rfl | rfl)
  simp only [Act.put, List.setIfInBounds_toArray, List.set_cons_zero, List.set_cons_succ]
  refine take_on (i := 5) (v := ?_) rfl rfl (by kernel_rfl) (by kernel_rfl) (by kernel_rfl) (fun _ _ _ h => h) rfl ?_ hHeld ?_
  rotate_left
  · (intro wq hSq; obtain ⟨q0, q1, q2, q3, q4, q5, q6⟩ := hSq.cells; go_simp <;> first | with_reducible rfl | rfl)
  simp only [Act.put, List.setIfInBounds_toArray, List.set_cons_zero, List.set_cons_succ]
  refine take_on (i := 6) (v := ?_) rfl rfl (by kernel_rfl) (by kernel_rfl) (by kernel_rfl) (fun _ _ _ h => h) rfl ?_ hHeld ?_
  rotate_left
  · (intro wq hSq; obtain ⟨q0, q1, q2, q3, q4, q5, q6⟩ := hSq.cells; go_simp <;> first | with_reducible rfl | rfl)
  simp only [Act.put, List.setIfInBounds_toArray, List.set_cons_zero, List.set_cons_succ]
  refine take_on (i := 7) (v := ?_) rfl rfl (by kernel_rfl) (by kernel_rfl) (by kernel_rfl) (fun _ _ _ h => h) rfl ?_ hHeld ?_
  rotate_left
  · (intro wq hSq; obtain ⟨q0, q1, q2, q3, q4, q5, q6⟩ := hSq.cells; go_simp <;> first | with_reducible rfl | rfl)
  simp only [Act.put, List.setIfInBounds_toArray, List.set_cons_zero, List.set_cons_succ]
  refine take_on (i := 8) (v := ?_) rfl rfl (by kernel_rfl) (by kernel_rfl) (by kernel_rfl) (fun _ _ _ h => h) rfl ?_ hHeld ?_
  rotate_left
  · (intro wq hSq; obtain ⟨q0, q1, q2, q3, q4, q5, q6⟩ := hSq.cells; go_simp <;> first | with_reducible rfl | rfl)
  simp only [Act.put, List.setIfInBounds_toArray, List.set_cons_zero, List.set_cons_succ]
  refine take_on (i := 9) (v := ?_) rfl rfl (by kernel_rfl) (by kernel_rfl) (by kernel_rfl) (fun _ _ _ h => h) rfl ?_ hHeld ?_
  rotate_left
  · (intro wq hSq; obtain ⟨q0, q1, q2, q3, q4, q5, q6⟩ := hSq.cells; go_simp <;> first | with_reducible rfl | rfl)
  simp only [Act.put, List.setIfInBounds_toArray, List.set_cons_zero, List.set_cons_succ]
  refine take_on (i := 10) (v := ?_) rfl rfl (by kernel_rfl) (by kernel_rfl) (by kernel_rfl) (fun _ _ _ h => h) rfl ?_ hHeld ?_
  rotate_left
  · (intro wq hSq; obtain ⟨q0, q1, q2, q3, q4, q5, q6⟩ := hSq.cells; go_simp <;> first | with_reducible rfl | rfl)
  simp only [Act.put, List.setIfInBounds_toArray, List.set_cons_zero, List.set_cons_succ]
  refine take_on (i := 11) (v := ?_) rfl rfl (by kernel_rfl) (by kernel_rfl) (by kernel_rfl) (fun _ _ _ h => h) rfl ?_ hHeld ?_
  rotate_left
  · (intro wq hSq; obtain ⟨q0, q1, q2, q3, q4, q5, q6⟩ := hSq.cells; go_simp <;> first | with_reducible rfl | rfl)
  simp only [Act.put, List.setIfInBounds_toArray, List.set_cons_zero, List.set_cons_succ]
  refine take_on (i := 12) (v := ?_) rfl rfl (by kernel_rfl) (by kernel_rfl) (by kernel_rfl) (fun _ _ _ h => h) rfl ?_ hHeld ?_
  rotate_left
  · (intro wq hSq; obtain ⟨q0, q1, q2, q3, q4, q5, q6⟩ := hSq.cells; go_simp <;> first | with_reducible rfl | rfl)
  simp only [Act.put, List.setIfInBounds_toArray, List.set_cons_zero, List.set_cons_succ]
  refine take_on (i := 13) (v := ?_) rfl rfl (by kernel_rfl) (by kernel_rfl) (by kernel_rfl) (fun _ _ _ h => h) rfl ?_ hHeld ?_
  rotate_left
  · (intro wq hSq; obtain ⟨q0, q1, q2, q3, q4, q5, q6⟩ := hSq.cells; go_simp <;> first | with_reducible rfl | rfl)
  simp only [Act.put, List.setIfInBounds_toArray, List.set_cons_zero, List.set_cons_succ]
  refine take_on (i := 14) (v := ?_) rfl rfl (by kernel_rfl) (by kernel_rfl) (by kernel_rfl) (fun _ _ _ h => h) rfl ?_ hHeld ?_
  rotate_left
  · (intro wq hSq; obtain ⟨q0, q1, q2, q3, q4, q5, q6⟩ := hSq.cells; go_simp <;> first | with_reducible rfl | rfl)
  simp only [Act.put, List.setIfInBounds_toArray, List.set_cons_zero, List.set_cons_succ]
  refine take_on (i := 15) (v := ?_) rfl rfl (by kernel_rfl) (by kernel_rfl) (by kernel_rfl) (fun _ _ _ h => h) rfl ?_ hHeld ?_
  rotate_left
  · (intro wq hSq; obtain ⟨q0, q1, q2, q3, q4, q5, q6⟩ := hSq.cells; go_simp <;> first | with_reducible rfl | rfl)
  simp only [Act.put, List.setIfInBounds_toArray, List.set_cons_zero, List.set_cons_succ]
  refine take_on (i := 16) (v := ?_) rfl rfl (by kernel_rfl) (by kernel_rfl) (by kernel_rfl) (fun _ _ _ h => h) rfl ?_ hHeld ?_
  rotate_left
  · (intro wq hSq; obtain ⟨q0, q1, q2, q3, q4, q5, q6⟩ := hSq.cells; go_simp <;> first | with_reducible rfl | rfl)
  simp only [Act.put, List.setIfInBounds_toArray, List.set_cons_zero, List.set_cons_succ]
  refine take_on (i := 17) (v := ?_) rfl rfl (by kernel_rfl) (by kernel_rfl) (by kernel_rfl) (fun _ _ _ h => h) rfl ?_ hHeld ?_
  rotate_left
  · (intro wq hSq; obtain ⟨q0, q1, q2, q3, q4, q5, q6⟩ := hSq.cells; go_simp <;> first | with_reducible rfl | rfl)
  simp only [Act.put, List.setIfInBounds_toArray, List.set_cons_zero, List.set_cons_succ]
  refine take_on (i := 18) (v := ?_) rfl rfl (by kernel_rfl) (by kernel_rfl) (by kernel_rfl) (fun _ _ _ h => h) rfl ?_ hHeld ?_
  rotate_left
  · (intro wq hSq; obtain ⟨q0, q1, q2, q3, q4, q5, q6⟩ := hSq.cells; go_simp <;> first | with_reducible rfl | rfl)
  simp only [Act.put, List.setIfInBounds_toArray, List.set_cons_zero, List.set_cons_succ]
  refine take_one (i := 19) rfl (by kernel_rfl) (fun K hK => ?_)
  go_simp
  refine hK.out _ _ ?_ (fun hHeld => ?_)
  · exact R1 _
  clear hK K
  try simp only [Act.put, List.setIfInBounds_toArray, List.set_cons_zero, List.set_cons_succ]
  refine wpAnyH_done (by kernel_rfl) ?_ _
  go_wp2_with fail
  refine bodyPost_ret (ret_item rfl _ _ (w.heap.size + 1) ⟨k, b, n, f, r, i, t⟩ rfl (heap_alloc2_new w _ _)) rfl ?_
  exact ⟨rfl, (hfin _).drew⟩

/-- One that lies in a row. -/
structure RawAt (w : World) (b o : Nat) (x : It) : Prop where
  c0 : w.cell? ⟨b, o, none⟩ = some (.int .i64 x.k)
  c1 : w.cell? ⟨b, o + 1, none⟩ = some (.bool x.b)
  c2 : w.cell? ⟨b, o + 2, none⟩ = some (.int .i64 x.n)
  c3 : w.cell? ⟨b, o + 3, none⟩ = some (.int .u64 (x.f : Int))
  c4 : w.cell? ⟨b, o + 4, none⟩ = some (.int .u64 (x.r : Int))
  c5 : w.cell? ⟨b, o + 5, none⟩ = some (.int .u64 (x.i : Int))
  c6 : w.cell? ⟨b, o + 6, none⟩ = some (.string x.t)
theorem RawAt.below {w w' : World} {b o : Nat} {x : It} {B : Nat} (h : RawAt w b o x) (hb : Below B w w') (hlt : b < B) : RawAt w' b o x :=
  ⟨by rw [hb.cell (p := ⟨b, o, none⟩) hlt]; exact h.c0, by rw [hb.cell (p := ⟨b, o + 1, none⟩) hlt]; exact h.c1, by rw [hb.cell (p := ⟨b, o + 2, none⟩) hlt]; exact h.c2,
    by rw [hb.cell (p := ⟨b, o + 3, none⟩) hlt]; exact h.c3, by rw [hb.cell (p := ⟨b, o + 4, none⟩) hlt]; exact h.c4, by rw [hb.cell (p := ⟨b, o + 5, none⟩) hlt]; exact h.c5, by rw [hb.cell (p := ⟨b, o + 6, none⟩) hlt]; exact h.c6⟩
/-- A row of them. -/
def RowR (w : World) (a : Option Addr) (xs : List It) : Prop :=
  xs.length = 0 ∨ ∃ b o, a = some ⟨b, o, none⟩ ∧ b < w.heap.size ∧ ∀ i (h : i < xs.length), RawAt w b (o + i * 7) xs[i]
theorem RowR.here {w : World} {a : Option Addr} {xs : List It} (h : RowR w a xs) {i : Nat} (hi : i < xs.length) :
    ∃ b o, a = some ⟨b, o, none⟩ ∧ b < w.heap.size ∧ RawAt w b (o + i * 7) xs[i] := by
  rcases h with h | ⟨b, o, e, hlt, hc⟩
  · omega
  · exact ⟨b, o, e, hlt, hc i hi⟩
theorem RowR.below {w w' : World} {a : Option Addr} {xs : List It} (h : RowR w a xs) (hb : Below w.heap.size w w') : RowR w' a xs := by
  rcases h with h | ⟨b, o, e, hlt, hc⟩
  · exact .inl h
  · exact .inr ⟨b, o, e, Nat.lt_of_lt_of_le hlt hb.size, fun i hi => (hc i hi).below hb hlt⟩
theorem RowR.take {w : World} {a : Option Addr} {xs : List It} (h : RowR w a xs) (n : Nat) : RowR w a (xs.take n) := by
  rcases h with h | ⟨b, o, e, hlt, hc⟩
  · exact .inl (by simp [h])
  · refine .inr ⟨b, o, e, hlt, fun i hi => ?_⟩
    have hi2 : i < xs.length := by simp at hi; omega
    rw [List.getElem_take]
    exact hc i hi2

/-- A list that is being filled: its first k items are laid. -/
def FillI (w : World) (g : Nat) (xs : List It) (k : Nat) : Prop :=
  ∃ cur : Array Value, w.heap[g]? = some (.cells cur 29 (0, 0)) ∧ cur.size = xs.length * 6 ∧ ∀ i (h : i < xs.length), i < k → ∀ j, j < 6 → cur[i * 6 + j]? = (cellsI xs[i])[j]?
theorem FillI.lt {w : World} {g k : Nat} {xs : List It} (h : FillI w g xs k) : g < w.heap.size := by
  obtain ⟨cur, hh, _⟩ := h
  exact (Array.getElem?_eq_some_iff.1 hh).1
theorem FillI.below {w w' : World} {B g k : Nat} {xs : List It} (h : FillI w g xs k) (hb : Below B w w') (hg : g < B) : FillI w' g xs k := by
  obtain ⟨cur, hh, h2⟩ := h
  exact ⟨cur, by rw [hb.block g hg]; exact hh, h2⟩
theorem FillI.there {w : World} {g k : Nat} {xs : List It} (h : FillI w g xs k) {m : Nat} (hm : m < xs.length * 6) : (∃ u, w.cell? ⟨g, m, none⟩ = some u) ∧ w.frozen? ⟨g, m, none⟩ = false := by
  obtain ⟨cur, hh, hs, _⟩ := h
  refine ⟨?_, frozen_of_row w g m _ _ hh⟩
  rw [cell_of_row _ _ _ _ _ _ hh]
  exact ⟨_, Array.getElem?_eq_getElem (by omega)⟩
theorem FillI.step {w : World} {g k : Nat} {xs : List It} (h : FillI w g xs k) (hk : k < xs.length) {x : It} (hx : xs[k] = x) :
    FillI ((((((w.setCell ⟨g, k * 6, none⟩ (.int .i64 x.k)).setCell ⟨g, k * 6 + 1, none⟩ (.bool x.b)).setCell ⟨g, k * 6 + 2, none⟩ (.int .i64 x.n)).setCell ⟨g, k * 6 + 3, none⟩ (.float .f64 x.f)).setCell ⟨g, k * 6 + 4, none⟩ (.complex .f64 x.r x.i)).setCell ⟨g, k * 6 + 5, none⟩ (.string x.t)) g xs (k + 1) := by
  obtain ⟨cur, hh, hs, hc⟩ := h
  have h0 := heap_setCell_same _ g (k * 6) _ _ (.int .i64 x.k) hh
  have h1 := heap_setCell_same _ g (k * 6 + 1) _ _ (.bool x.b) h0
  have h2 := heap_setCell_same _ g (k * 6 + 2) _ _ (.int .i64 x.n) h1
  have h3 := heap_setCell_same _ g (k * 6 + 3) _ _ (.float .f64 x.f) h2
  have h4 := heap_setCell_same _ g (k * 6 + 4) _ _ (.complex .f64 x.r x.i) h3
  have h5 := heap_setCell_same _ g (k * 6 + 5) _ _ (.string x.t) h4
  refine ⟨_, h5, by simpa using hs, fun i hi hik j hj => ?_⟩
  simp only [Array.getElem?_setIfInBounds, Array.size_setIfInBounds]
  by_cases e : i = k
  · subst e
    rw [hx]
    match j, hj with
    | 0, _ => simp; omega
    | 1, _ => simp; omega
    | 2, _ => simp; omega
    | 3, _ => simp; omega
    | 4, _ => simp; omega
    | 5, _ => simp; omega
  · rw [if_neg (by omega), if_neg (by omega), if_neg (by omega), if_neg (by omega), if_neg (by omega), if_neg (by omega)]
    exact hc i hi (by omega) j hj
theorem FillI.done {w : World} {base g : Nat} {xs : List It} (h : FillI w g xs xs.length) (hb : base ≤ g) (hl : xs.length ≤ maxLen) : OwnI w base (.slice (some ⟨g, 0, none⟩) xs.length xs.length) xs := by
  obtain ⟨cur, hh, hs, hc⟩ := h
  refine ⟨flat_len xs, .inr ⟨g, xs.length, cur, rfl, hb, hh, Nat.le_refl _, hl, hs, ?_⟩⟩
  apply List.ext_getElem?
  intro m
  by_cases hm : m < xs.length * 6
  · rw [List.getElem?_take_of_lt hm, Array.getElem?_toList]
    have e : m = m / 6 * 6 + m % 6 := by omega
    rw [e, hc (m / 6) (by omega) (by omega) (m % 6) (by omega), flat_at xs (m / 6) (m % 6) (by omega) (by omega)]
  · rw [List.getElem?_eq_none (by simp; omega), List.getElem?_eq_none (by rw [flat_len]; omega)]

set_option maxRecDepth 100000 in
set_option maxHeartbeats 1000000 in
theorem items_any (a : Option Addr) (cap : Nat) (xs : List It) (w : World) (hr : RowR w a xs) (hl : xs.length * 64 ≤ 140737488355328) :
    Calls Try.prog 5 #[.slice a xs.length cap] w fun e w' => (∃ v, e = .returned v ∧ OwnI w' w.heap.size v xs) ∧ Below w.heap.size w w' := by
  obtain ⟨i0, hi, hz0, hz1, hz2⟩ := info_parts infoI
  have HX := hide_it hr
  clear hr
  go_enter Try.func5, Try.ntmps5
  go_wp2_with (refine wpList_make_full _ rfl _ _ 24 rfl w.heap.size 29 i0 _ 6 Try.underlying24 hi hz0 hz1 .i64 .i64 _ _ xs.length rfl rfl rfl rfl (by rw [hz2]; omega) (by unfold maxLen; omega) (Nat.le_refl _) ?_; intro w1 hown1 hg1)
  have hb1 : Below w.heap.size w w1 := (Below.refl _ _).grown hg1 (Nat.le_refl _) (fun j e => by cases e)
  have hf1 : FillI w1 w.heap.size xs 0 := by
    rcases hown1.2 with ⟨e, _⟩ | ⟨g, c, cur, e, _, hh, _, _, hs, _⟩
    · cases e
    · cases e
      exact ⟨cur, hh, hs, fun i hi hik => by omega⟩
  clear hown1 hg1
  go_loopw [4] (fun i wr => ∃ k : Nat, k ≤ xs.length ∧ i = .int .i64 (k : Int) ∧ FillI wr w.heap.size xs k ∧ Below w.heap.size w wr) (fun i _ => xs.length - (intOf i).toNat)
  case atStart => exact ⟨0, by omega, rfl, hf1, hb1⟩
  case round =>
    obtain ⟨k, hk, rfl, hf, hbl⟩ := hrel
    have hbs := hbl.size
    clear hf1 hb1
    by_cases hlt : k < xs.length
    · obtain ⟨bb, oo, rfl, hbb, hat⟩ := HX.out.here hlt
      have hat2 := hat.below hbl hbb
      obtain ⟨x, hxe⟩ : ∃ x, xs[k] = x := ⟨_, rfl⟩
      rw [hxe] at hat2
      have HXE := hide_it hxe
      have hd1 : decide ((k : Int) < (xs.length : Int)) = true := by simp; omega
      have hit := fun w => lawItem_any x w
      obtain ⟨c0, c1, c2, c3, c4, c5, c6⟩ := hat2
      clear hat hxe
      go_wp2_with fail
      refine (hit _).mono ?_
      rintro e w2 ⟨rfl, hb2⟩
      have hf2 := hf.below hb2 hf.lt
      have hbl2 := hbl.trans (hb2.mono hbs)
      obtain ⟨⟨u0, p0⟩, z0⟩ := hf2.there (m := k * 6) (by omega)
      obtain ⟨⟨u1, p1⟩, z1⟩ := hf2.there (m := k * 6 + 1) (by omega)
      obtain ⟨⟨u2, p2⟩, z2⟩ := hf2.there (m := k * 6 + 2) (by omega)
      obtain ⟨⟨u3, p3⟩, z3⟩ := hf2.there (m := k * 6 + 3) (by omega)
      obtain ⟨⟨u4', p4⟩, z4⟩ := hf2.there (m := k * 6 + 4) (by omega)
      obtain ⟨⟨u5', p5⟩, z5⟩ := hf2.there (m := k * 6 + 5) (by omega)
      have HF := hide_it hf2
      clear hf hf2 hit c0 c1 c2 c3 c4 c5 c6 hb2
      go_wp2_with fail
      go_roundw
      case rel => exact ⟨k + 1, by omega, by go_num, HF.out.step hlt HXE.out, (((((hbl2.setCell (Nat.le_refl _) _).setCell (Nat.le_refl _) _).setCell (Nat.le_refl _) _).setCell (Nat.le_refl _) _).setCell (Nat.le_refl _) _).setCell (Nat.le_refl _) _⟩
      case measure => simp [intOf]; omega
    · have hke : k = xs.length := by omega
      subst hke
      have hd1 : decide ((xs.length : Int) < (xs.length : Int)) = false := by simp
      go_wp2_with fail
      go_ret
      exact ⟨⟨_, rfl, hf.done (Nat.le_refl _) (by unfold maxLen; omega)⟩, hbl⟩

end Go.Proofs.Ytelcfmjhbjnkoaa
