/- Sorting a row of labels of the call's own, twelve of them or fewer: what the library's insertion sort does. -/
import Derived.Test.YthclmkmajlinhabWalk3
import Derived.Deep.OwnRows
import Derived.RegionTactic
import Derived.ChangeAlike
namespace Go.Proofs.Ythclmkmajlinhab
open Go.RowKit

/-- A label as a value. -/
def encU (z : Nat) : Value := .int .u64 (z : Int)
/-- A number of a kind as a value. -/
def encK (q : IntKind) (z : Nat) : Value := .int q (z : Int)

/-- Block g holds the numbers zs, and behind them rest. -/
def Blk (q : IntKind) (t : TypeId) (w : World) (g : Nat) (zs : List Nat) (rest : List Value) : Prop := w.heap[g]? = some (.cells (zs.map (encK q) ++ rest).toArray t (0, 0))

theorem map_at0 {q : IntKind} {zs : List Nat} {i : Nat} (h : i < zs.length) (rest : List Value) : (zs.map (encK q) ++ rest)[i]? = some (encK q (at0 zs i)) := by
  rw [List.getElem?_append_left (by simpa using h), List.getElem?_map]
  unfold at0; rw [List.getD_eq_getElem?_getD, List.getElem?_eq_getElem h]; rfl

theorem Blk.cell {q : IntKind} {t : TypeId} {w : World} {g : Nat} {zs : List Nat} {rest : List Value} (h : Blk q t w g zs rest) {i : Nat} (hi : i < zs.length) : w.cell? ⟨g, i, none⟩ = some (.int q ((at0 zs i : Nat) : Int)) := by
  rw [cell_of_row _ _ _ _ _ _ h, List.getElem?_toArray]; exact map_at0 hi rest
theorem Blk.frozen {q : IntKind} {t : TypeId} {w : World} {g : Nat} {zs : List Nat} {rest : List Value} (h : Blk q t w g zs rest) (i : Nat) : w.frozen? ⟨g, i, none⟩ = false := frozen_of_row w g i _ _ h
theorem Blk.lt {q : IntKind} {t : TypeId} {w : World} {g : Nat} {zs : List Nat} {rest : List Value} (h : Blk q t w g zs rest) : g < w.heap.size := (Array.getElem?_eq_some_iff.1 h).1

theorem Blk.set {q : IntKind} {t : TypeId} {w : World} {g : Nat} {zs : List Nat} {rest : List Value} (h : Blk q t w g zs rest) {i : Nat} (hi : i < zs.length) (x : Nat) : Blk q t (w.setCell ⟨g, i, none⟩ (.int q (x : Int))) g (zs.set i x) rest := by
  unfold Blk at *
  rw [heap_setCell_same w g i _ _ _ h]
  congr 2
  rw [List.setIfInBounds_toArray, List.set_append_left _ _ (by simpa using hi), List.map_set]
  rfl

theorem Blk.drewN {q : IntKind} {t : TypeId} {w : World} {g : Nat} {zs : List Nat} {rest : List Value} (h : Blk q t w g zs rest) (m : Nat) : Blk q t (w.drewN m) g zs rest := by
  induction m with
  | zero => exact h
  | succ m ih => exact ih

theorem grown_drewN {w w' : World} {r : Option Nat} (h : w.grownBy w' r) (q : Nat) : w.grownBy (w'.drewN q) r := by
  induction q with
  | zero => exact h
  | succ q ih => exact ⟨ih.os, ih.tape, ih.output, ih.size, ih.block⟩

theorem grown_set {w w' : World} {g : Nat} (h : w.grownBy w' (some g)) (i : Nat) (v : Value) : w.grownBy (w'.setCell ⟨g, i, none⟩ v) (some g) :=
  ⟨h.os, h.tape, h.output, by simpa using h.size, fun k hk hne => by
    rw [Below.heap_setCell _ _ _ _ (fun e => hne (by rw [e]))]; exact h.block k hk hne⟩

theorem at0_set {zs : List Nat} {i : Nat} (hi : i < zs.length) (x k : Nat) : at0 (zs.set i x) k = if k = i then x else at0 zs k := by
  unfold at0
  rw [List.getD_eq_getElem?_getD, List.getD_eq_getElem?_getD, List.getElem?_set]
  by_cases e : i = k
  · subst e; rw [if_pos rfl, if_pos hi, if_pos rfl]; rfl
  · rw [if_neg e, if_neg (fun h => e h.symm)]

theorem at0_get {zs : List Nat} {i : Nat} (hi : i < zs.length) : zs[i] = at0 zs i := by
  unfold at0; rw [List.getD_eq_getElem?_getD, List.getElem?_eq_getElem hi]; rfl

/-- Two elements exchanged. -/
def swapL (zs : List Nat) (i j : Nat) : List Nat := (zs.set i (at0 zs j)).set j (at0 zs i)

theorem swapL_perm {zs : List Nat} {i j : Nat} (hi : i < zs.length) (hj : j < zs.length) : (swapL zs i j).Perm zs := by
  have h := List.set_set_perm hi hj
  rw [at0_get hi, at0_get hj] at h
  exact h
theorem swapL_length {zs : List Nat} (i j : Nat) : (swapL zs i j).length = zs.length := by simp [swapL]
theorem swapL_at {zs : List Nat} {i j : Nat} (hi : i < zs.length) (hj : j < zs.length) (k : Nat) : at0 (swapL zs i j) k = if k = j then at0 zs i else if k = i then at0 zs j else at0 zs k := by
  unfold swapL
  rw [at0_set (by simpa using hj), at0_set hi]

/-- Rising (not strictly) from a up to b. -/
def sortedR (zs : List Nat) (a b : Nat) : Prop := ∀ p q, a ≤ p → p < q → q < b → at0 zs p ≤ at0 zs q
/-- The same elements, and the same ones outside a .. b. -/
def within (a b : Nat) (zs zs' : List Nat) : Prop := zs'.Perm zs ∧ ∀ i, (i < a ∨ b ≤ i) → at0 zs' i = at0 zs i

theorem within.refl (a b : Nat) (zs : List Nat) : within a b zs zs := ⟨List.Perm.refl _, fun _ _ => rfl⟩
theorem within.trans {a b : Nat} {x y z : List Nat} (h : within a b x y) (k : within a b y z) : within a b x z := ⟨k.1.trans h.1, fun i hi => (k.2 i hi).trans (h.2 i hi)⟩
theorem within.swap {a b : Nat} {zs : List Nat} {i j : Nat} (hi : a ≤ i) (hj : a ≤ j) (hib : i < b) (hjb : j < b) (hb : b ≤ zs.length) : within a b zs (swapL zs i j) :=
  ⟨swapL_perm (by omega) (by omega), fun k hk => by rw [swapL_at (by omega) (by omega), if_neg (by omega), if_neg (by omega)]⟩

/-- Sorted from a to i but for the element at j, which is not above those behind it. -/
def nearly (zs : List Nat) (a i j : Nat) : Prop := ∀ p q, a ≤ p → p < q → q ≤ i → q ≠ j → at0 zs p ≤ at0 zs q

theorem nearly_start {zs : List Nat} {a i : Nat} (h : sortedR zs a i) : nearly zs a i i := fun p q h1 h2 h3 h4 => h p q h1 h2 (by omega)
theorem nearly_step {zs : List Nat} {a i j : Nat} (h : nearly zs a i j) (haj : a < j) (hji : j ≤ i) (hi : i < zs.length) (hl : at0 zs j < at0 zs (j - 1)) : nearly (swapL zs j (j - 1)) a i (j - 1) := by
  intro p q h1 h2 h3 h4
  rw [swapL_at (by omega) (by omega), swapL_at (by omega) (by omega), if_neg (by omega : ¬ q = j - 1)]
  by_cases e1 : q = j
  · subst e1
    rw [if_pos rfl]
    by_cases e2 : p = q - 1
    · rw [if_pos e2]; omega
    · rw [if_neg e2, if_neg (by omega)]; exact h p (q - 1) h1 (by omega) (by omega) (by omega)
  · rw [if_neg e1]
    by_cases e2 : p = j - 1
    · rw [if_pos e2]
      exact h j q (by omega) (by omega) h3 e1
    · rw [if_neg e2]
      by_cases e3 : p = j
      · rw [if_pos e3]; exact h (j - 1) q (by omega) (by omega) h3 e1
      · rw [if_neg e3]; exact h p q h1 h2 h3 e1
theorem nearly_stop {zs : List Nat} {a i j : Nat} (h : nearly zs a i j) (hs : j ≤ a ∨ at0 zs (j - 1) ≤ at0 zs j) : sortedR zs a (i + 1) := by
  intro p q h1 h2 h3
  by_cases e : q = j
  · subst e
    rcases hs with hs | hs
    · omega
    · by_cases e2 : p = q - 1
      · subst e2; exact hs
      · exact Nat.le_trans (h p (q - 1) h1 (by omega) (by omega) (by omega)) hs
  · exact h p q h1 h2 (by omega) e


end Go.Proofs.Ythclmkmajlinhab
