/- A chain in memory; what Len, Last, At of it answer. -/
import Derived.Test.YthaknohnccmfoaaHn1Y
import Derived.BigQuiet
namespace Go.Proofs.Ythaknohnccmfoaa.kY
open Go.RowKit

/-- The blocks of F and those that were made since. -/
def upto (F : Nat → Prop) (w w' : World) (j : Nat) : Prop := F j ∨ (w.heap.size ≤ j ∧ j < w'.heap.size)
/-- In block p lies a chain with the links xs, in the slice v; F: the blocks that are its own. -/
structure Hn (w : World) (F : Nat → Prop) (p : Nat) (v : Value) (xs : List Lk) : Prop where
  blk : w.heap[p]? = some (.cells #[v] 114 (0, 0))
  own : OwL w v xs
  good : Good xs
  fp : F p
  fv : ∀ j, v.ownBlock = some j → F j
section
variable {w w' : World} {F : Nat → Prop} {p : Nat} {v : Value} {xs : List Lk}
theorem Hn.lt (h : Hn w F p v xs) : p < w.heap.size := (Array.getElem?_eq_some_iff.1 h.blk).1
theorem Hn.keep (h : Hn w F p v xs) (hk : ∀ j, j < w.heap.size → F j → w'.heap[j]? = w.heap[j]?) : Hn w' F p v xs :=
  ⟨(hk p h.lt h.fp).trans h.blk, OwnS.keep h.own fun j hj => hk j (OwnS.inside h.own j hj).2 (h.fv j hj), h.good, h.fp, h.fv⟩
theorem Hn.below (h : Hn w F p v xs) (hb : Below w.heap.size w w') : Hn w' F p v xs := h.keep fun j hj _ => hb.block j hj
theorem Hn.chg {S : Nat → Prop} (h : Hn w F p v xs) (hc : Chg S w w') (hs : ∀ j, S j → ¬ F j) : Hn w' F p v xs := h.keep fun j hj hF => hc.block j hj fun hS => hs j hS hF
theorem Hn.mono {G : Nat → Prop} (h : Hn w F p v xs) (hg : ∀ j, F j → G j) : Hn w G p v xs := ⟨h.blk, h.own, h.good, hg _ h.fp, fun j hj => hg j (h.fv j hj)⟩
theorem Hn.cell (h : Hn w F p v xs) : w.cell? ⟨p, 0, none⟩ = some v ∧ ∀ j, w.frozen? ⟨p, j, none⟩ = false := ⟨cell_of_row _ _ _ _ _ _ h.blk, fun _ => frozen_of_row _ _ _ _ _ h.blk⟩
theorem Hn.row (h : Hn w F p v xs) : ∃ a cap, v = .slice a xs.length cap ∧ RowL w a xs ∧ xs.length ≤ cap ∧ cap ≤ maxLen ∧ (a = none → xs.length = 0 ∧ cap = 0) ∧ (∀ j, v.ownBlock = some j ↔ ∃ o, a = some ⟨j, o, none⟩) := own_row h.own
end

set_option maxRecDepth 100000 in
set_option maxHeartbeats 400000 in
theorem len_any {w : World} {F : Nat → Prop} {p : Nat} {v : Value} {xs : List Lk} (h : Hn w F p v xs) : Calls Try.prog 48 #[.pointer (some ⟨p, 0, none⟩)] w fun e w' => e = .returned (.int .i64 (xs.length : Int)) ∧ w' = w := by
  obtain ⟨c0, _⟩ := h.cell
  obtain ⟨a, cap, rfl, _, _, _, _, _⟩ := h.row
  clear h
  go_enter Try.func48, Try.ntmps48
  go_wp2
  go_ret
  exact ⟨rfl, rfl⟩
set_option maxRecDepth 100000 in
theorem len_none (w : World) : Calls Try.prog 48 #[.pointer none] w fun e w' => e = .returned (.int .i64 0) ∧ w' = w := by
  go_enter Try.func48, Try.ntmps48
  go_wp2
  go_ret
  exact ⟨rfl, rfl⟩

/-- A link and whether there is one, as they are answered. -/
def tellL (x : Lk) (b : Bool) : Ending := .returned (.tuple #[lkV x, .bool b])
/-- The last one of the first m. -/
def lastK (xs : List Lk) (m : Nat) : Lk := if m = 0 then zeroLk else lk xs (m - 1)

set_option maxRecDepth 100000 in
set_option maxHeartbeats 400000 in
theorem lastOf_zero (q : Option Addr) (w : World) : Calls Try.prog 64 #[.pointer q, .int .i64 0] w fun e w' => e = tellL zeroLk false ∧ Below w.heap.size w w' := by
  go_enter Try.func64, Try.ntmps64
  go_wp2
  exact bodyPost_ret (v := .tuple #[.agg #[.int .i64 0, .slice none 0 0, .bool false], .bool false]) (by simp [results, Try.results64, go_sem]) rfl ⟨rfl, (Below.refl _ _).alloc (Nat.le_refl _) _⟩
set_option maxRecDepth 100000 in
set_option maxHeartbeats 1000000 in
theorem lastOf_some {w : World} {F : Nat → Prop} {p : Nat} {v : Value} {xs : List Lk} (h : Hn w F p v xs) (m : Nat) (hm : m < xs.length) (hl : xs.length ≤ 4000000000000) : Calls Try.prog 64 #[.pointer (some ⟨p, 0, none⟩), .int .i64 ((m : Int) + 1)] w fun e w' => e = tellL (lk xs m) true ∧ Below w.heap.size w w' := by
  obtain ⟨c0, _⟩ := h.cell
  have hp := h.lt
  obtain ⟨a, cap, rfl, hr, _, _, _, _⟩ := h.row
  obtain ⟨b, o, rfl, hb, d0, d1, d2⟩ := hr.here hm
  have hn0 : ((m : Int) + 1 == 0) = false := by simp; omega
  have hw1 : IntKind.i64.wrap ((m : Int) + 1 - 1) = (m : Int) := by rw [i64_in (by omega) (by omega)]; omega
  have hmi : (m : Int) < (xs.length : Int) := by omega
  generalize lk xs m = x at *
  clear h hr
  go_enter Try.func64, Try.ntmps64
  go_wp2
  exact bodyPost_ret (v := .tuple #[lkV x, .bool true]) (by simp [results, Try.results64, lkV, go_sem]) rfl ⟨rfl, (Below.refl _ _).alloc (Nat.le_refl _) _⟩

end Go.Proofs.Ythaknohnccmfoaa.kY
