/- Plain facts on lists of labels: where one stands, whether they rise, whether they are closed under union and intersection; and a row of labels in memory. -/
import Derived.Test.YthclmkmajlinhabMath
import Derived.WalkSpells
import Derived.WalkLawsBesides
namespace Go.Proofs.Ythclmkmajlinhab
open Go.RowKit

/-- The element i of a list, 0 beyond its end. -/
def at0 (zs : List Nat) (i : Nat) : Nat := zs.getD i 0

theorem at0_mem {zs : List Nat} {i : Nat} (h : i < zs.length) : at0 zs i ∈ zs := by
  unfold at0; rw [List.getD_eq_getElem?_getD, List.getElem?_eq_getElem h]; exact List.getElem_mem h

theorem mem_at0 {zs : List Nat} {x : Nat} (h : x ∈ zs) : ∃ i, i < zs.length ∧ at0 zs i = x := by
  obtain ⟨i, hi, e⟩ := List.mem_iff_getElem.1 h
  exact ⟨i, hi, by unfold at0; rw [List.getD_eq_getElem?_getD, List.getElem?_eq_getElem hi]; exact e⟩

/-- All are numbers of 64 bits. -/
def All64 (zs : List Nat) : Prop := ∀ z ∈ zs, W64 z
theorem All64.at {zs : List Nat} (h : All64 zs) (i : Nat) : W64 (at0 zs i) := by
  by_cases hi : i < zs.length
  · exact h _ (at0_mem hi)
  · unfold at0; rw [List.getD_eq_getElem?_getD, List.getElem?_eq_none (by omega)]; show 0 < _; omega

/-- A row of labels: the slice's address and its elements (none: whatever the address). -/
def Row (w : World) (a : Option Addr) (zs : List Nat) : Prop :=
  zs.length = 0 ∨ ∃ b o, a = some ⟨b, o, none⟩ ∧ b < w.heap.size ∧ ∀ i, i < zs.length → w.cell? ⟨b, o + i, none⟩ = some (.int .u64 ((at0 zs i : Nat) : Int))

theorem Row.below {w w' : World} {a : Option Addr} {zs : List Nat} (h : Row w a zs) (hb : Below w.heap.size w w') : Row w' a zs := by
  rcases h with h | ⟨b, o, e, hlt, hc⟩
  · exact .inl h
  · exact .inr ⟨b, o, e, Nat.lt_of_lt_of_le hlt hb.size, fun i hi => by rw [hb.cell (p := ⟨b, o + i, none⟩) hlt]; exact hc i hi⟩

theorem Row.here {w : World} {a : Option Addr} {zs : List Nat} (h : Row w a zs) {i : Nat} (hi : i < zs.length) :
    ∃ b o, a = some ⟨b, o, none⟩ ∧ b < w.heap.size ∧ ∀ i, i < zs.length → w.cell? ⟨b, o + i, none⟩ = some (.int .u64 ((at0 zs i : Nat) : Int)) := by
  rcases h with h | h
  · omega
  · exact h

/-- Where x stands first; -1: nowhere. -/
def idx (zs : List Nat) (x : Nat) : Int := if x ∈ zs then (zs.idxOf x : Int) else -1

def notIn (zs : List Nat) (x k : Nat) : Prop := ∀ i, i < k → at0 zs i ≠ x

theorem notIn_succ {zs : List Nat} {x k : Nat} (h : notIn zs x k) (hk : at0 zs k ≠ x) : notIn zs x (k + 1) := by
  intro i hi
  by_cases e : i = k
  · subst e; exact hk
  · exact h i (by omega)

theorem idx_found {zs : List Nat} {x k : Nat} (h : notIn zs x k) (hk : k < zs.length) (e : at0 zs k = x) : idx zs x = (k : Int) := by
  have hm : x ∈ zs := e ▸ at0_mem hk
  unfold idx
  rw [if_pos hm]
  have h1 : zs.idxOf x < zs.length := List.idxOf_lt_length_iff.2 hm
  have h2 : at0 zs (zs.idxOf x) = x := by unfold at0; rw [List.getD_eq_getElem?_getD, List.getElem?_eq_getElem h1]; exact List.getElem_idxOf h1
  have h3 : ¬ zs.idxOf x < k := fun hlt => h _ hlt h2
  have h4 : ¬ k < zs.idxOf x := fun hlt => by
    have := List.not_of_lt_findIdx (p := (· == x)) (xs := zs) (show k < zs.findIdx (· == x) from hlt)
    unfold at0 at e
    rw [List.getD_eq_getElem?_getD, List.getElem?_eq_getElem hk] at e
    simp at e this
    exact this e
  congr 1; omega

theorem idx_none {zs : List Nat} {x : Nat} (h : notIn zs x zs.length) : idx zs x = -1 := by
  unfold idx
  rw [if_neg]
  intro hm
  obtain ⟨i, hi, e⟩ := mem_at0 hm
  exact h i hi e

theorem idx_neg {zs : List Nat} {x : Nat} : decide (0 ≤ idx zs x) = decide (x ∈ zs) := by
  unfold idx
  by_cases h : x ∈ zs
  · rw [if_pos h]; simp [h]
  · rw [if_neg h]; simp [h]

theorem idx_lt {zs : List Nat} {x : Nat} : decide (idx zs x < 0) = !decide (x ∈ zs) := by
  unfold idx
  by_cases h : x ∈ zs
  · rw [if_pos h]; simp [h]
  · rw [if_neg h]; simp [h]

/-- Rising, each above the one ahead of it, as far as k. -/
def risesTo (zs : List Nat) (k : Nat) : Prop := ∀ i, i + 1 < k → at0 zs i < at0 zs (i + 1)
/-- The union and the intersection of two of them are among them. -/
def good (zs : List Nat) (i j : Nat) : Prop := (at0 zs i ||| at0 zs j) ∈ zs ∧ (at0 zs i &&& at0 zs j) ∈ zs

def risesB (zs : List Nat) : Bool := (List.range (zs.length - 1)).all fun i => decide (at0 zs i < at0 zs (i + 1))
def closedB (zs : List Nat) : Bool := zs.all fun x => zs.all fun y => decide ((x ||| y) ∈ zs) && decide ((x &&& y) ∈ zs)

/-- What Check answers. -/
def checkOf (zs : List Nat) : Nat :=
  if zs.length < 1 ∨ 16 < zs.length then 10 else if risesB zs = false then 11 else if closedB zs = false then 12 else 0

theorem risesB_iff {zs : List Nat} : risesB zs = true ↔ risesTo zs zs.length := by
  unfold risesB risesTo
  rw [List.all_eq_true]
  constructor
  · intro h i hi; exact of_decide_eq_true (h i (List.mem_range.2 (by omega)))
  · intro h i hi; exact decide_eq_true (h i (by have := List.mem_range.1 hi; omega))

theorem closedB_iff {zs : List Nat} : closedB zs = true ↔ ∀ i j, i < zs.length → j < zs.length → good zs i j := by
  unfold closedB good
  simp only [List.all_eq_true, Bool.and_eq_true, decide_eq_true_eq]
  constructor
  · intro h i j hi hj; exact h _ (at0_mem hi) _ (at0_mem hj)
  · intro h x hx y hy
    obtain ⟨i, hi, rfl⟩ := mem_at0 hx
    obtain ⟨j, hj, rfl⟩ := mem_at0 hy
    exact h i j hi hj

theorem risesTo_succ {zs : List Nat} {k : Nat} (h : risesTo zs k) (hk : 1 ≤ k) (e : at0 zs (k - 1) < at0 zs k) : risesTo zs (k + 1) := by
  intro i hi
  by_cases he : i + 1 = k
  · subst he; simpa using e
  · exact h i (by omega)

theorem rises_no {zs : List Nat} {k : Nat} (hk : 1 ≤ k) (hl : k < zs.length) (e : at0 zs k ≤ at0 zs (k - 1)) : risesB zs = false := by
  cases h : risesB zs
  · rfl
  · have := risesB_iff.1 h (k - 1) (by omega)
    have e2 : k - 1 + 1 = k := by omega
    rw [e2] at this; omega

theorem good_self {zs : List Nat} {i : Nat} (hi : i < zs.length) : good zs i i := by
  unfold good; rw [Nat.or_self, Nat.and_self]; exact ⟨at0_mem hi, at0_mem hi⟩
theorem good_comm {zs : List Nat} {i j : Nat} (h : good zs i j) : good zs j i := by
  unfold good at *; rw [Nat.or_comm, Nat.and_comm]; exact h
theorem good_of_half {zs : List Nat} (h : ∀ i j, i < zs.length → j < i → good zs i j) : ∀ i j, i < zs.length → j < zs.length → good zs i j := by
  intro i j hi hj
  rcases Nat.lt_trichotomy i j with hlt | rfl | hlt
  · exact good_comm (h j i hj hlt)
  · exact good_self hi
  · exact h i j hi hlt

theorem closed_no {zs : List Nat} {i j : Nat} (hi : i < zs.length) (hj : j < zs.length) (h : ¬ good zs i j) : closedB zs = false := by
  cases e : closedB zs
  · rfl
  · exact absurd (closedB_iff.1 e i j hi hj) h

end Go.Proofs.Ythclmkmajlinhab
