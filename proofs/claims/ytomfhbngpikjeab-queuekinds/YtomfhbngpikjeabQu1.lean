/- Queues: what a ring holds, as lists; which blocks a call of a queue changes. -/
import Derived.Test.YtomfhbngpikjeabRows
import Derived.Test.YtomfhbngpikjeabReg2
import Derived.WalkKit
import Derived.WalkSpells
import Derived.WalkLawsBesides
import Derived.Laws.BitsAllLaws
import Derived.Maps.AppendAt
import Derived.Laws.AppendOwnNone
import Derived.Laws.CopyOwn
import Derived.OwnWalk
import Derived.Below
import Derived.Tactics
import Derived.Deep.OwnRows
import Derived.OpenShut
import Derived.Deep.QuietTactic
import Derived.BigQuiet
import Derived.BigRegion
import Derived.RegionTactic
namespace Go.Proofs.Ytomfhbngpikjeab
open Go.RowKit

theorem hide_it {p : Prop} (h : p) : Hid p := h

theorem below_drewN {w w' : World} {B : Nat} (h : Below B w w') (q : Nat) : Below B w (w'.drewN q) := by
  induction q with
  | zero => exact h
  | succ q ih => exact ih.drew

theorem wrap_mod {f i R : Nat} (hf : f < R) (hi : i < R) : (f + i) % R = if f + i < R then f + i else f + i - R := by
  split
  · exact Nat.mod_eq_of_lt (by assumption)
  · rw [Nat.mod_eq_sub_mod (by omega), Nat.mod_eq_of_lt (by omega)]

/-- The ring cur holds the things vs, the first one at f. -/
structure Laid (cur : List Value) (f : Nat) (vs : List Value) : Prop where
  at_ : f < cur.length
  len : vs.length ≤ cur.length
  holds : ∀ i, i < vs.length → cur[(f + i) % cur.length]? = vs[i]?

theorem Laid.push {cur : List Value} {f : Nat} {vs : List Value} (h : Laid cur f vs) (hl : vs.length < cur.length) (x : Value) :
    Laid (cur.set ((f + vs.length) % cur.length) x) f (vs ++ [x]) := by
  have hf := h.at_
  refine ⟨by simpa using hf, by simp; omega, fun i hi => ?_⟩
  have hm : (f + vs.length) % cur.length < cur.length := Nat.mod_lt _ (by omega)
  simp only [List.length_append, List.length_cons, List.length_nil] at hi
  rw [List.length_set]
  by_cases e : i = vs.length
  · subst e
    rw [List.getElem?_set_self hm, List.getElem?_append_right (Nat.le_refl _)]
    simp
  · have hne : (f + vs.length) % cur.length ≠ (f + i) % cur.length := by
      rw [wrap_mod hf hl, wrap_mod hf (by omega)]
      split <;> split <;> omega
    rw [List.getElem?_set_ne hne, List.getElem?_append_left (by omega)]
    exact h.holds i (by omega)

theorem Laid.first {cur : List Value} {f : Nat} {v : Value} {vs : List Value} (h : Laid cur f (v :: vs)) : cur[f]? = some v := by
  have := h.holds 0 (by simp)
  rwa [Nat.add_zero, Nat.mod_eq_of_lt h.at_] at this

theorem Laid.pop {cur : List Value} {f : Nat} {v : Value} {vs : List Value} (h : Laid cur f (v :: vs)) (z : Value) :
    Laid (cur.set f z) ((f + 1) % cur.length) vs := by
  have hf := h.at_
  have hl := h.len
  simp only [List.length_cons] at hl
  have hm : (f + 1) % cur.length < cur.length := Nat.mod_lt _ (by omega)
  refine ⟨by simpa using hm, by simp; omega, fun i hi => ?_⟩
  rw [List.length_set]
  have e : ((f + 1) % cur.length + i) % cur.length = (f + (i + 1)) % cur.length := by
    rw [Nat.mod_add_mod]; congr 1; omega
  rw [e]
  have hne : f ≠ (f + (i + 1)) % cur.length := by
    rw [wrap_mod hf (by omega)]
    split <;> omega
  rw [List.getElem?_set_ne hne]
  have := h.holds (i + 1) (by simpa using hi)
  simpa using this

theorem Laid.fresh (vs zs : List Value) (h : 0 < (vs ++ zs).length) : Laid (vs ++ zs) 0 vs := by
  refine ⟨h, by simp, fun i hi => ?_⟩
  rw [Nat.zero_add, Nat.mod_eq_of_lt (by simp; omega), List.getElem?_append_left hi]

/-- How many lie ahead of the ring's end. -/
def aheadN (n f R : Nat) : Nat := min n (R - f)
theorem aheadN_le (n f R : Nat) : aheadN n f R ≤ n := Nat.min_le_left _ _
theorem aheadN_le' (n f R : Nat) : aheadN n f R ≤ R - f := Nat.min_le_right _ _
theorem Laid.line1 {cur : List Value} {f : Nat} {vs : List Value} (h : Laid cur f vs) {j : Nat} (hj : j < aheadN vs.length f cur.length) : cur[f + j]? = vs[j]? := by
  have h1 := aheadN_le vs.length f cur.length
  have h2 := aheadN_le' vs.length f cur.length
  have := h.holds j (by omega)
  rwa [Nat.mod_eq_of_lt (by omega)] at this
theorem Laid.line2 {cur : List Value} {f : Nat} {vs : List Value} (h : Laid cur f vs) {j : Nat} (hj : aheadN vs.length f cur.length + j < vs.length) : cur[j]? = vs[aheadN vs.length f cur.length + j]? := by
  have h3 := h.len
  have h4 := h.at_
  have h2 : aheadN vs.length f cur.length = cur.length - f := by unfold aheadN at hj ⊢; omega
  have := h.holds _ hj
  rw [h2] at this hj ⊢
  rw [wrap_mod h4 (by omega), if_neg (by omega)] at this
  rw [← this]
  congr 1
  omega
theorem splice2 {α : Type} (Z X Y : List α) (_h : X.length + Y.length ≤ Z.length) : splice (splice Z 0 X) X.length Y = X ++ (Y ++ Z.drop (X.length + Y.length)) := by
  have e1 : splice Z 0 X = X ++ Z.drop X.length := by simp [splice]
  rw [e1]
  unfold splice
  rw [List.take_left', List.drop_append]
  · simp
  · rfl

/-- Only the blocks b and g are changed, and new ones made. -/
structure Only (b g : Nat) (w w' : World) : Prop where
  os : w'.os = w.os
  tape : w'.tape = w.tape
  output : w'.output = w.output
  size : w.heap.size ≤ w'.heap.size
  block : ∀ k, k < w.heap.size → k ≠ b → k ≠ g → w'.heap[k]? = w.heap[k]?
theorem Only.refl (b g : Nat) (w : World) : Only b g w w := ⟨rfl, rfl, rfl, Nat.le_refl _, fun _ _ _ _ => rfl⟩
theorem Only.of_below {b g : Nat} {w w' : World} (h : Below w.heap.size w w') : Only b g w w' := ⟨h.os, h.tape, h.output, h.size, fun k hk _ _ => h.block k hk⟩
theorem Only.trans {b g g' : Nat} {w w1 w2 : World} (h : Only b g w w1) (k : Only b g' w1 w2) (hg : g' = g ∨ w.heap.size ≤ g') : Only b g w w2 :=
  ⟨k.os.trans h.os, k.tape.trans h.tape, k.output.trans h.output, Nat.le_trans h.size k.size, fun i hi h1 h2 => (k.block i (Nat.lt_of_lt_of_le hi h.size) h1 (by rcases hg with e | e; subst e; exact h2; omega)).trans (h.block i hi h1 h2)⟩
theorem Only.setB {b g : Nat} {w w1 : World} (h : Only b g w w1) (i : Nat) (u : Value) : Only b g w (w1.setCell ⟨b, i, none⟩ u) :=
  ⟨h.os, h.tape, h.output, by simpa using h.size, fun k hk h1 h2 => (Below.heap_setCell _ _ _ k h1).trans (h.block k hk h1 h2)⟩
theorem Only.setG {b g : Nat} {w w1 : World} (h : Only b g w w1) (i : Nat) (u : Value) : Only b g w (w1.setCell ⟨g, i, none⟩ u) :=
  ⟨h.os, h.tape, h.output, by simpa using h.size, fun k hk h1 h2 => (Below.heap_setCell _ _ _ k h2).trans (h.block k hk h1 h2)⟩
theorem Only.setN {b g c : Nat} {w w1 : World} (h : Only b g w w1) (hc : w.heap.size ≤ c) (i : Nat) (u : Value) : Only b g w (w1.setCell ⟨c, i, none⟩ u) :=
  ⟨h.os, h.tape, h.output, by simpa using h.size, fun k hk h1 h2 => (Below.heap_setCell _ _ _ k (by simp; omega)).trans (h.block k hk h1 h2)⟩
theorem Only.drew {b g : Nat} {w w1 : World} (h : Only b g w w1) : Only b g w w1.drew := ⟨h.os, h.tape, h.output, h.size, h.block⟩
theorem Only.below {b g B : Nat} {w w1 : World} (h : Only b g w w1) (hb : B ≤ b) (hg : B ≤ g) (hB : B ≤ w.heap.size) : Below B w w1 :=
  ⟨h.os, h.tape, h.output, h.size, fun k hk => h.block k (by omega) (by omega) (by omega)⟩
theorem Only.cell {b g : Nat} {w w1 : World} (h : Only b g w w1) {p : Addr} (hp : p.block < w.heap.size) (h1 : p.block ≠ b) (h2 : p.block ≠ g) : w1.cell? p = w.cell? p :=
  World.cell?_of_block (w := w) (h.block p.block hp h1 h2)

/-- What New answers. -/
def newE (most : Int) : Int := if most < 0 then 2 else if 65536 < most then 3 else 0

theorem i64_in {n : Int} (h1 : -9223372036854775808 ≤ n) (h2 : n ≤ 9223372036854775807) : IntKind.i64.wrap n = n := by
  simp [IntKind.wrap, IntKind.bits, IntKind.signed]
  omega

/-- Texts are alike just if their bytes are. -/
theorem text_eq (x y : ByteArray) : (x.toList == y.toList) = decide (x = y) := by
  rw [Bool.eq_iff_iff, beq_iff_eq, decide_eq_true_iff, ByteArray.toList_eq, ByteArray.toList_eq]
  exact ⟨fun h => ByteArray.ext (Array.toList_inj.mp h), fun h => by rw [h]⟩
theorem num_eq (x y : Int) : (x == y) = decide (x = y) := by
  rw [Bool.eq_iff_iff, beq_iff_eq, decide_eq_true_iff]

theorem made_list (z : Value) (n : Nat) : madeCells #[z] n = (List.replicate n z).toArray := by
  apply Array.ext_getElem?
  intro i
  by_cases h : i < n
  · simp [madeCells, h, Nat.mod_one]
  · simp [madeCells, h]

end Go.Proofs.Ytomfhbngpikjeab
