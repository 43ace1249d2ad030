/- Lists of clocks, of the program and of the document; vectors of what they say. -/
import Derived.Test.YthlkegemkkepgaaCk4
namespace Go.Proofs.Ythlkegemkkepgaa
open Go.RowKit

/-- A row of pointers to clocks. -/
def RowPt (w : World) (a : Option Addr) (n : Nat) (C : Nat → Ck) (P : Nat → Nat) : Prop :=
  n = 0 ∨ ∃ b o, a = some ⟨b, o, none⟩ ∧ b < w.heap.size ∧ ∀ i, i < n → w.cell? ⟨b, o + i, none⟩ = some (ptrK (C i) (P i))
/-- A row of the document's clocks. -/
def RowCk (w : World) (a : Option Addr) (n : Nat) (C : Nat → Ck) : Prop :=
  n = 0 ∨ ∃ b o, a = some ⟨b, o, none⟩ ∧ b < w.heap.size ∧ ∀ i, i < n → w.cell? ⟨b, o + i * 3, none⟩ = some (.bool (C i).t) ∧ w.cell? ⟨b, o + i * 3 + 1, none⟩ = some (.int .i64 (C i).n) ∧ w.cell? ⟨b, o + i * 3 + 2, none⟩ = some (.int .i64 (C i).k)
section
variable {w w' : World} {a : Option Addr} {n : Nat} {C : Nat → Ck} {P : Nat → Nat}
theorem RowPt.below (h : RowPt w a n C P) (hb : Below w.heap.size w w') : RowPt w' a n C P := by
  rcases h with h | ⟨b, o, e, hlt, hc⟩
  · exact .inl h
  · exact .inr ⟨b, o, e, Nat.lt_of_lt_of_le hlt hb.size, fun i hi => by rw [hb.cell (p := ⟨b, o + i, none⟩) hlt]; exact hc i hi⟩
theorem RowPt.here (h : RowPt w a n C P) {i : Nat} (hi : i < n) : ∃ b o, a = some ⟨b, o, none⟩ ∧ b < w.heap.size ∧ ∀ i, i < n → w.cell? ⟨b, o + i, none⟩ = some (ptrK (C i) (P i)) := by
  rcases h with h | h
  · omega
  · exact h
theorem RowCk.below (h : RowCk w a n C) (hb : Below w.heap.size w w') : RowCk w' a n C := by
  rcases h with h | ⟨b, o, e, hlt, hc⟩
  · exact .inl h
  · refine .inr ⟨b, o, e, Nat.lt_of_lt_of_le hlt hb.size, fun i hi => ?_⟩
    obtain ⟨q0, q1, q2⟩ := hc i hi
    exact ⟨by rw [hb.cell (p := ⟨b, o + i * 3, none⟩) hlt]; exact q0, by rw [hb.cell (p := ⟨b, o + i * 3 + 1, none⟩) hlt]; exact q1, by rw [hb.cell (p := ⟨b, o + i * 3 + 2, none⟩) hlt]; exact q2⟩
theorem RowCk.here (h : RowCk w a n C) {i : Nat} (hi : i < n) : ∃ b o, a = some ⟨b, o, none⟩ ∧ b < w.heap.size ∧ w.cell? ⟨b, o + i * 3, none⟩ = some (.bool (C i).t) ∧ w.cell? ⟨b, o + i * 3 + 1, none⟩ = some (.int .i64 (C i).n) ∧ w.cell? ⟨b, o + i * 3 + 2, none⟩ = some (.int .i64 (C i).k) := by
  rcases h with h | ⟨b, o, e, hlt, hc⟩
  · omega
  · exact ⟨b, o, e, hlt, hc i hi⟩
end

/-- What stands at a place of a vector. -/
def seen (C : Nat → Ck) (ps : List Int) (i : Nat) : Int := if (i : Int) ∈ ps ∧ (C i).t = true then (C i).n else -1
/-- The vector. -/
def vecOf (n : Nat) (C : Nat → Ck) (ps : List Int) : List Int := (List.range n).map (seen C ps)
theorem vecOf_len (n : Nat) (C : Nat → Ck) (ps : List Int) : (vecOf n C ps).length = n := by simp [vecOf]
theorem vecOf_at {n : Nat} {C : Nat → Ck} {ps : List Int} {i : Nat} (h : i < n) : atI (vecOf n C ps) i = seen C ps i := by
  unfold atI vecOf; rw [List.getD_eq_getElem?_getD, List.getElem?_map, List.getElem?_range h]; rfl
theorem vecOf_succ (n : Nat) (C : Nat → Ck) (ps : List Int) : vecOf (n + 1) C ps = vecOf n C ps ++ [seen C ps n] := by
  simp [vecOf, List.range_succ]
theorem mem_take_succ {ps : List Int} {k : Nat} (h : k < ps.length) (x : Int) : x ∈ ps.take (k + 1) ↔ x ∈ ps.take k ∨ x = atI ps k := by
  rw [List.take_succ_eq_append_getElem h, List.mem_append, atI_get h]; simp
theorem seen_succ {ps : List Int} {k : Nat} (h : k < ps.length) (C : Nat → Ck) (i : Nat) : seen C (ps.take (k + 1)) i = if atI ps k = (i : Int) ∧ (C i).t = true then (C i).n else seen C (ps.take k) i := by
  unfold seen
  by_cases ht : (C i).t = true
  · by_cases he : atI ps k = (i : Int)
    · rw [if_pos ⟨(mem_take_succ h _).2 (.inr he.symm), ht⟩, if_pos ⟨he, ht⟩]
    · rw [if_neg (c := atI ps k = (i : Int) ∧ (C i).t = true) (fun x => he x.1)]
      have : (i : Int) ∈ ps.take (k + 1) ↔ (i : Int) ∈ ps.take k := by rw [mem_take_succ h]; exact ⟨fun x => x.elim id (fun e => absurd e.symm he), .inl⟩
      simp only [this]
  · simp [ht]
theorem seen_nil (C : Nat → Ck) (i : Nat) : seen C [] i = -1 := by simp [seen]

/-- In block g lie n ints, as f says. -/
structure Vec (w : World) (g n : Nat) (f : Nat → Int) : Prop where
  blk : ∃ cur, w.heap[g]? = some (.cells cur 3 (0, 0)) ∧ cur.size = n ∧ ∀ i, i < n → cur[i]? = some (.int .i64 (f i))
section
variable {w w' : World} {g n : Nat} {f : Nat → Int}
theorem Vec.cell (h : Vec w g n f) {i : Nat} (hi : i < n) : w.cell? ⟨g, i, none⟩ = some (.int .i64 (f i)) ∧ w.frozen? ⟨g, i, none⟩ = false := by
  obtain ⟨cur, hh, _, hc⟩ := h.blk
  exact ⟨(cell_of_row _ _ _ _ _ _ hh).trans (hc i hi), frozen_of_row _ _ _ _ _ hh⟩
theorem Vec.lt (h : Vec w g n f) : g < w.heap.size := by obtain ⟨cur, hh, _⟩ := h.blk; exact (Array.getElem?_eq_some_iff.1 hh).1
theorem Vec.keep (h : Vec w g n f) (e : w'.heap[g]? = w.heap[g]?) : Vec w' g n f := by obtain ⟨cur, hh, h2⟩ := h.blk; exact ⟨cur, e.trans hh, h2⟩
theorem Vec.below (h : Vec w g n f) (hb : Below w.heap.size w w') : Vec w' g n f := h.keep (hb.block g h.lt)
theorem Vec.congr {f' : Nat → Int} (h : Vec w g n f) (e : ∀ i, i < n → f i = f' i) : Vec w g n f' := by
  obtain ⟨cur, hh, h2, hc⟩ := h.blk
  exact ⟨cur, hh, h2, fun i hi => by rw [hc i hi, e i hi]⟩
theorem Vec.set (h : Vec w g n f) (i : Nat) (x : Int) : Vec (w.setCell ⟨g, i, none⟩ (.int .i64 x)) g n (fun j => if j = i then x else f j) := by
  obtain ⟨cur, hh, h2, hc⟩ := h.blk
  refine ⟨_, heap_setCell_same w g i _ _ _ hh, by simpa using h2, fun j hj => ?_⟩
  by_cases e : i = j
  · subst e; rw [Array.getElem?_setIfInBounds_self_of_lt (by omega)]; simp
  · rw [Array.getElem?_setIfInBounds_ne (by omega), if_neg (fun x => e x.symm)]; exact hc j hj
theorem Vec.own (h : Vec w g n f) (hn : n ≤ maxLen) {base : Nat} (hb : base ≤ g) : OwI w base (.slice (some ⟨g, 0, none⟩) n n) ((List.range n).map f) := by
  obtain ⟨cur, hh, h2, hc⟩ := h.blk
  refine ⟨by simp, .inr ⟨g, 0, n, cur, by simp, hb, hh, by simp, hn, by omega, fun i hi => ?_⟩⟩
  have hi' : i < n := by simpa using hi
  rw [Nat.zero_add, hc i hi', List.getElem?_map, List.getElem?_map, List.getElem?_range hi']
  rfl
end
theorem vec_made (w : World) (n : Nat) : Vec (w.alloc (.cells (madeCells #[.int .i64 0] n) 3)) w.heap.size n (fun _ => 0) := by
  refine ⟨_, heap_alloc_new w _, by simp [madeCells], fun i hi => ?_⟩
  simp [madeCells, hi, Nat.mod_one]

/-- Is there a clock at that number? -/
def thereB (n : Nat) (C : Nat → Ck) (x : Int) : Bool := decide (0 ≤ x ∧ x < n) && (C x.toNat).t

set_option maxRecDepth 100000 in
set_option maxHeartbeats 400000 in
theorem isThere_any (a : Option Addr) (n ca : Nat) (C : Nat → Ck) (P : Nat → Nat) (x : Int) (w : World) (h : RowPt w a n C P) :
    Calls Try.prog 27 #[.slice a n ca, .int .i64 x] w fun e w' => e = .returned (.bool (thereB n C x)) ∧ w' = w := by
  by_cases h1 : 0 ≤ x
  · by_cases h2 : x < n
    · obtain ⟨m, rfl⟩ : ∃ m : Nat, x = (m : Int) := ⟨x.toNat, by omega⟩
      have hm : m < n := by omega
      obtain ⟨b, o, rfl, hlt, hc⟩ := h.here hm
      have q := hc m hm
      have e : thereB n C (m : Int) = (C m).t := by simp [thereB, hm]
      rw [e]
      unfold ptrK at q
      clear e hc h
      cases ht : (C m).t with
      | true =>
        rw [ht] at q
        clear ht
        go_enter Try.func27, Try.ntmps27
        go_wp2
        go_ret
        exact ⟨rfl, rfl⟩
      | false =>
        rw [ht] at q
        clear ht
        go_enter Try.func27, Try.ntmps27
        go_wp2
        go_ret
        exact ⟨rfl, rfl⟩
    · have e : thereB n C x = false := by simp [thereB, h2]
      rw [e]
      clear e h
      go_enter Try.func27, Try.ntmps27
      go_wp2
      go_ret
      exact ⟨rfl, rfl⟩
  · have e : thereB n C x = false := by simp [thereB, h1]
    rw [e]
    clear e h
    go_enter Try.func27, Try.ntmps27
    go_wp2
    go_ret
    exact ⟨rfl, rfl⟩

end Go.Proofs.Ythlkegemkkepgaa
