/- Rows of ints in memory, and slices of ints of the call's own: read, copied, laid behind, written over. -/
import Derived.Test.YtbafjkanbbcbgaaBt1
import Derived.Test.YtbafjkanbbcbgaaSl1
import Derived.Test.YtbafjkanbbcbgaaReg2
import Derived.BigRegion
namespace Go.Proofs.Ytbafjkanbbcbgaa
open Go.RowKit

/-- The element i of a list, 0 beyond its end. -/
def atI (zs : List Int) (i : Nat) : Int := zs.getD i 0
/-- An int as a value. -/
def encI (z : Int) : Value := .int .i64 z
/-- All are ints. -/
def AllI (zs : List Int) : Prop := ∀ z ∈ zs, -9223372036854775808 ≤ z ∧ z ≤ 9223372036854775807
theorem atI_get {zs : List Int} {i : Nat} (hi : i < zs.length) : zs[i] = atI zs i := by
  unfold atI; rw [List.getD_eq_getElem?_getD, List.getElem?_eq_getElem hi]; rfl
theorem atI_mem {zs : List Int} {i : Nat} (h : i < zs.length) : atI zs i ∈ zs := by
  rw [← atI_get h]; exact List.getElem_mem h
theorem mapI_at {zs : List Int} {i : Nat} (h : i < zs.length) : (zs.map encI)[i]? = some (.int .i64 (atI zs i)) := by
  rw [List.getElem?_map, List.getElem?_eq_getElem h, atI_get h]; rfl
theorem eq_of_atI {xs ys : List Int} (hl : xs.length = ys.length) (h : ∀ i, i < xs.length → atI xs i = atI ys i) : xs = ys := by
  apply List.ext_getElem hl
  intro i h1 h2
  rw [atI_get h1, atI_get h2]; exact h i h1
theorem atI_append_left {xs ys : List Int} {i : Nat} (h : i < xs.length) : atI (xs ++ ys) i = atI xs i := by
  unfold atI; rw [List.getD_eq_getElem?_getD, List.getD_eq_getElem?_getD, List.getElem?_append_left h]
theorem atI_append_right {xs ys : List Int} {i : Nat} (h : xs.length ≤ i) : atI (xs ++ ys) i = atI ys (i - xs.length) := by
  unfold atI; rw [List.getD_eq_getElem?_getD, List.getD_eq_getElem?_getD, List.getElem?_append_right h]
theorem atI_set_self {xs : List Int} {i : Nat} (h : i < xs.length) (x : Int) : atI (xs.set i x) i = x := by
  unfold atI; rw [List.getD_eq_getElem?_getD, List.getElem?_set_self h]; rfl
theorem atI_set_ne {xs : List Int} {i j : Nat} (h : i ≠ j) (x : Int) : atI (xs.set i x) j = atI xs j := by
  unfold atI; rw [List.getD_eq_getElem?_getD, List.getD_eq_getElem?_getD, List.getElem?_set_ne h]
theorem i64_in {n : Int} (h1 : -9223372036854775808 ≤ n) (h2 : n ≤ 9223372036854775807) : IntKind.i64.wrap n = n := by
  simp only [IntKind.wrap, IntKind.bits, IntKind.signed]
  simp
  omega

/-- A row of ints: the slice's address and its elements (none: whatever the address). -/
def RowI (w : World) (a : Option Addr) (zs : List Int) : Prop :=
  zs.length = 0 ∨ ∃ b o, a = some ⟨b, o, none⟩ ∧ b < w.heap.size ∧ ∀ i, i < zs.length → w.cell? ⟨b, o + i, none⟩ = some (.int .i64 (atI zs i))
theorem RowI.below {w w' : World} {a : Option Addr} {zs : List Int} (h : RowI w a zs) (hb : Below w.heap.size w w') : RowI w' a zs := by
  rcases h with h | ⟨b, o, e, hlt, hc⟩
  · exact .inl h
  · exact .inr ⟨b, o, e, Nat.lt_of_lt_of_le hlt hb.size, fun i hi => by rw [hb.cell (p := ⟨b, o + i, none⟩) hlt]; exact hc i hi⟩
theorem RowI.here {w : World} {a : Option Addr} {zs : List Int} (h : RowI w a zs) {i : Nat} (hi : i < zs.length) :
    ∃ b o, a = some ⟨b, o, none⟩ ∧ b < w.heap.size ∧ ∀ i, i < zs.length → w.cell? ⟨b, o + i, none⟩ = some (.int .i64 (atI zs i)) := by
  rcases h with h | h
  · omega
  · exact h
/-- v is a slice of ints zs in a block from base on that nobody else writes. -/
def OwI (w : World) (base : Nat) (v : Value) (zs : List Int) : Prop := OwnS w base 3 1 v zs.length (zs.map encI)
theorem infoN : (Try.prog.info? 3).map (fun i => (i.zero, i.size, i.bytes)) = some (some (.int .i64 0), 1, 8) := by kernel_rfl

theorem OwI.row {w : World} {base : Nat} {v : Value} {zs : List Int} (h : OwI w base v zs) : ∃ a cap, v = .slice a zs.length cap ∧ RowI w a zs ∧ zs.length ≤ cap ∧ cap ≤ maxLen ∧ (a = none → zs.length = 0 ∧ cap = 0) := by
  obtain ⟨a, cap, hv, hn, hm, h0, hc⟩ := OwnS.open h
  refine ⟨a, cap, hv, ?_, hn, hm, h0⟩
  cases a with
  | none => exact .inl (h0 rfl).1
  | some b =>
    obtain ⟨h1, h2, _, h4⟩ := hc b rfl
    refine .inr ⟨b.block, b.off, by cases b; simp_all, h2, fun i hi => ?_⟩
    rw [h4 i (by simpa using hi)]
    exact mapI_at hi





























theorem OwI.nil (w : World) (base : Nat) : OwI w base (.slice none 0 0) [] := OwnS.nil _ _ _ _
theorem OwI.keep {w w' : World} {base : Nat} {v : Value} {zs : List Int} (h : OwI w base v zs) (hk : ∀ j, v.ownBlock = some j → w'.heap[j]? = w.heap[j]?) : OwI w' base v zs := OwnS.keep h hk
theorem OwI.inside {w : World} {base : Nat} {v : Value} {zs : List Int} (h : OwI w base v zs) : ∀ j, v.ownBlock = some j → base ≤ j ∧ j < w.heap.size := OwnS.inside h
theorem OwI.mono {w : World} {base base' : Nat} {v : Value} {zs : List Int} (h : OwI w base v zs) (hb : base' ≤ base) : OwI w base' v zs := OwnS.mono h hb
theorem OwI.below {w w' : World} {base : Nat} {v : Value} {zs : List Int} (h : OwI w base v zs) (hb : Below w.heap.size w w') : OwI w' base v zs := OwnS.below h hb
theorem OwI.take {w : World} {base : Nat} {a : Option Addr} {cap m : Nat} {zs : List Int} (h : OwI w base (.slice a zs.length cap) zs) (hm : m ≤ zs.length) : OwI w base (.slice a m cap) (zs.take m) := by
  have h2 := OwnS.take h hm
  unfold OwI
  rw [List.length_take, Nat.min_eq_left hm, List.map_take]
  simpa using h2
theorem OwI.chg {w w' : World} {S : Nat → Prop} {base : Nat} {v : Value} {zs : List Int} (h : OwI w base v zs) (hc : Chg S w w') (hs : ∀ j, v.ownBlock = some j → ¬ S j) : OwI w' base v zs := OwnS.chg h hc hs
theorem OwI.empty (w : World) : OwI (w.alloc (.cells #[] 3)) w.heap.size (.slice (some ⟨w.heap.size, 0, none⟩) 0 0) [] :=
  ⟨rfl, .inr ⟨_, 0, _, _, rfl, Nat.le_refl _, heap_alloc_new w _, Nat.le_refl _, by unfold maxLen; omega, by simp, fun i hi => by cases hi⟩⟩
theorem OwI.set {w : World} {base g o cap : Nat} {zs : List Int} (h : OwI w base (.slice (some ⟨g, o, none⟩) zs.length cap) zs) {i : Nat} (hi : i < zs.length) (x : Int) : OwI (w.setCell ⟨g, o + i, none⟩ (.int .i64 x)) base (.slice (some ⟨g, o, none⟩) zs.length cap) (zs.set i x) := by
  have h2 := OwnS.set h i (by simpa using hi) (.int .i64 x)
  unfold OwI
  rw [List.length_set, List.map_set]
  exact h2
/-- One of one's own that is not empty: its block. -/
theorem OwI.at_ {w : World} {base n cap : Nat} {a : Option Addr} {zs : List Int} (h : OwI w base (.slice a n cap) zs) (h0 : 0 < zs.length) :
    ∃ g o, a = some ⟨g, o, none⟩ ∧ base ≤ g ∧ g < w.heap.size ∧ (∀ i, i < zs.length → w.cell? ⟨g, o + i, none⟩ = some (.int .i64 (atI zs i))) ∧ ∀ i, w.frozen? ⟨g, i, none⟩ = false := by
  rcases h.2 with ⟨h2, h3⟩ | ⟨g, o, c, cur, e, hb, hh, hn, hc, hs, ht⟩
  · omega
  · cases e
    refine ⟨g, o, rfl, hb, (Array.getElem?_eq_some_iff.1 hh).1, fun i hi => ?_, fun i => frozen_of_row _ _ _ _ _ hh⟩
    rw [cell_of_row _ _ _ _ _ _ hh, ht i (by simpa using hi)]
    exact mapI_at hi
theorem row_one (w : World) (z : Int) : RowI (w.alloc (.cells #[.int .i64 z] 3)) (some ⟨w.heap.size, 0, none⟩) [z] := by
  refine .inr ⟨w.heap.size, 0, rfl, by simp, fun i hi => ?_⟩
  obtain rfl : i = 0 := by simp at hi; omega
  rw [cell_of_row _ _ _ _ _ _ (heap_alloc_new w _)]
  rfl

end Go.Proofs.Ytbafjkanbbcbgaa
