/- Clocks: the program's in memory, the document's as values; what each of their calls answers. -/
import Derived.Test.YthlkegemkkepgaaIn1
namespace Go.Proofs.Ythlkegemkkepgaa
open Go.RowKit

/-- A clock: is it there, where it stands, its window. -/
structure Ck where
  t : Bool
  n : Int
  k : Int
/-- None. -/
def noCk : Ck := ⟨false, 0, 0⟩
/-- What is known of one. -/
structure CkOk (c : Ck) : Prop where
  gone : c.t = false → c.n = 0 ∧ c.k = 0
  low : 0 ≤ c.n ∧ c.n ≤ 4611686018427387904
  win : 0 ≤ c.k ∧ c.k ≤ 1048576
theorem noCk_ok : CkOk noCk := ⟨fun _ => ⟨rfl, rfl⟩, by simp [noCk], by simp [noCk]⟩
/-- The document's clock as a value. -/
def valK (c : Ck) : Value := .agg #[.bool c.t, .int .i64 c.n, .int .i64 c.k]
/-- A pointer to the program's clock, or none. -/
def ptrK (c : Ck) (p : Nat) : Value := .pointer (if c.t then some ⟨p, 0, none⟩ else none)
/-- In block p lies the clock c (if it is there). -/
def Pk (w : World) (p : Nat) (c : Ck) : Prop := c.t = true → w.heap[p]? = some (.cells #[.int .i64 c.n, .int .i64 c.k] 59 (0, 0))
theorem Pk.keep {w w' : World} {p : Nat} {c : Ck} (h : Pk w p c) (e : w'.heap[p]? = w.heap[p]?) : Pk w' p c := fun t => e.trans (h t)
theorem Pk.lt {w : World} {p : Nat} {c : Ck} (h : Pk w p c) (t : c.t = true) : p < w.heap.size := (Array.getElem?_eq_some_iff.1 (h t)).1
theorem Pk.below {w w' : World} {p : Nat} {c : Ck} (h : Pk w p c) (hb : Below w.heap.size w w') : Pk w' p c := fun t => (hb.block p (h.lt t)).trans (h t)
theorem Pk.cells {w : World} {p : Nat} {c : Ck} (h : Pk w p c) (t : c.t = true) : w.cell? ⟨p, 0, none⟩ = some (.int .i64 c.n) ∧ w.cell? ⟨p, 1, none⟩ = some (.int .i64 c.k) ∧ w.frozen? ⟨p, 0, none⟩ = false :=
  ⟨cell_of_row _ _ _ _ _ _ (h t), cell_of_row _ _ _ _ _ _ (h t), frozen_of_row _ _ _ _ _ (h t)⟩

/-- May a clock stand there, with this window? -/
def fine (a b : Int) : Prop := 0 ≤ a ∧ a ≤ 4611686018427387904 ∧ 0 ≤ b ∧ b ≤ 1048576
instance (a b : Int) : Decidable (fine a b) := by unfold fine; infer_instance
/-- What New makes. -/
def newC (a b : Int) : Ck := if fine a b then ⟨true, a, b⟩ else noCk
def newE (a b : Int) : Int := if fine a b then 0 else 2
theorem newC_ok (a b : Int) : CkOk (newC a b) := by
  unfold newC
  split
  · next h => unfold fine at h; exact ⟨fun h => (by cases h), by simp; omega, by simp; omega⟩
  · exact noCk_ok

set_option maxRecDepth 100000 in
set_option maxHeartbeats 400000 in
theorem isStamp_any (n : Int) (w : World) : Calls Try.prog 26 #[.int .i64 n] w fun e w' => e = .returned (.bool (decide (0 ≤ n ∧ n ≤ 4611686018427387904))) ∧ w' = w := by
  by_cases h1 : 0 ≤ n
  · by_cases h2 : n ≤ 4611686018427387904
    · have hd : decide (0 ≤ n ∧ n ≤ 4611686018427387904) = true := decide_eq_true ⟨h1, h2⟩
      rw [hd]; clear hd
      go_enter Try.func26, Try.ntmps26
      go_wp2
      go_ret
      exact ⟨rfl, rfl⟩
    · have hd : decide (0 ≤ n ∧ n ≤ 4611686018427387904) = false := decide_eq_false (by omega)
      rw [hd]; clear hd
      go_enter Try.func26, Try.ntmps26
      go_wp2
      go_ret
      exact ⟨rfl, rfl⟩
  · have hd : decide (0 ≤ n ∧ n ≤ 4611686018427387904) = false := decide_eq_false (by omega)
    rw [hd]; clear hd
    go_enter Try.func26, Try.ntmps26
    go_wp2
    go_ret
    exact ⟨rfl, rfl⟩

set_option maxRecDepth 100000 in
set_option maxHeartbeats 400000 in
theorem new_ok (a b : Int) (h : fine a b) (w : World) : Calls Try.prog 6 #[.int .i64 a, .int .i64 b] w fun e w' => e = .returned (.tuple #[.pointer (some ⟨w.heap.size, 0, none⟩), .int .i64 0]) ∧ w' = w.alloc (.cells #[.int .i64 a, .int .i64 b] 59) := by
  obtain ⟨h1, h2, h3, h4⟩ := h
  have hs := isStamp_any a w
  rw [show decide (0 ≤ a ∧ a ≤ 4611686018427387904) = true from decide_eq_true ⟨h1, h2⟩] at hs
  clear h1 h2
  go_enter Try.func6, Try.ntmps6
  go_wp2_with (refine hs.mono ?_; rintro e w1 ⟨rfl, rfl⟩)
  go_ret2
  exact ⟨rfl, rfl⟩

set_option maxRecDepth 100000 in
set_option maxHeartbeats 400000 in
theorem new_no (a b : Int) (h : ¬ fine a b) (w : World) : Calls Try.prog 6 #[.int .i64 a, .int .i64 b] w fun e w' => e = .returned (.tuple #[.pointer none, .int .i64 2]) ∧ w' = w := by
  have hs := isStamp_any a w
  by_cases h1 : 0 ≤ a ∧ a ≤ 4611686018427387904
  · rw [show decide (0 ≤ a ∧ a ≤ 4611686018427387904) = true from decide_eq_true h1] at hs
    by_cases h2 : b < 0
    · clear h h1
      go_enter Try.func6, Try.ntmps6
      go_wp2_with (refine hs.mono ?_; rintro e w1 ⟨rfl, rfl⟩)
      go_ret2
      exact ⟨rfl, rfl⟩
    · have h3 : 1048576 < b := by unfold fine at h; omega
      clear h h1
      go_enter Try.func6, Try.ntmps6
      go_wp2_with (refine hs.mono ?_; rintro e w1 ⟨rfl, rfl⟩)
      go_ret2
      exact ⟨rfl, rfl⟩
  · rw [show decide (0 ≤ a ∧ a ≤ 4611686018427387904) = false from decide_eq_false h1] at hs
    clear h h1
    go_enter Try.func6, Try.ntmps6
    go_wp2_with (refine hs.mono ?_; rintro e w1 ⟨rfl, rfl⟩)
    go_ret2
    exact ⟨rfl, rfl⟩

/-- New, whatever it is asked: the clock lies in the next block. -/
theorem new_any (a b : Int) (w : World) : Calls Try.prog 6 #[.int .i64 a, .int .i64 b] w fun e w' => e = .returned (.tuple #[ptrK (newC a b) w.heap.size, .int .i64 (newE a b)]) ∧ Pk w' w.heap.size (newC a b) ∧ Below w.heap.size w w' := by
  by_cases h : fine a b
  · refine (new_ok a b h w).mono ?_
    rintro e w' ⟨rfl, rfl⟩
    refine ⟨by simp [newC, newE, ptrK, h], fun _ => ?_, (Below.refl _ _).alloc (Nat.le_refl _) _⟩
    rw [heap_alloc_new]; simp [newC, h]
  · refine (new_no a b h w).mono ?_
    rintro e w' ⟨rfl, rfl⟩
    refine ⟨by simp [newC, newE, ptrK, noCk, h], fun e => ?_, Below.refl _ _⟩
    simp [newC, h, noCk] at e

set_option maxRecDepth 100000 in
theorem now_any (c : Ck) (hc : CkOk c) (p : Nat) (w : World) (hp : Pk w p c) : Calls Try.prog 8 #[ptrK c p] w fun e w' => e = .returned (.int .i64 c.n) ∧ w' = w := by
  cases ht : c.t with
  | true =>
    obtain ⟨h1, _, _⟩ := hp.cells ht
    unfold ptrK
    rw [ht]
    clear ht
    go_enter Try.func8, Try.ntmps8
    go_wp2
    go_ret
    exact ⟨rfl, rfl⟩
  | false =>
    unfold ptrK
    rw [ht, (hc.gone ht).1]
    clear ht
    go_enter Try.func8, Try.ntmps8
    go_wp2
    go_ret
    exact ⟨rfl, rfl⟩

set_option maxRecDepth 100000 in
theorem horizon_any (c : Ck) (hc : CkOk c) (p : Nat) (w : World) (hp : Pk w p c) : Calls Try.prog 16 #[ptrK c p] w fun e w' => e = .returned (.int .i64 (c.n - c.k)) ∧ Below w.heap.size w w' := by
  cases ht : c.t with
  | true =>
    obtain ⟨h1, h2, _⟩ := hp.cells ht
    unfold ptrK
    rw [ht]
    have hw : IntKind.i64.wrap (c.n - c.k) = c.n - c.k := by have := hc.low; have := hc.win; exact i64_in (by omega) (by omega)
    clear ht hc hp
    generalize c.n = n at *
    generalize c.k = k at *
    go_enter Try.func16, Try.ntmps16
    go_wp2
    go_quiet (fail)
    go_wp2
    go_ret
    exact ⟨rfl, below_drewN (Below.refl _ _) _⟩
  | false =>
    unfold ptrK
    rw [ht, show c.n - c.k = 0 by rw [(hc.gone ht).1, (hc.gone ht).2]; rfl]
    clear ht
    go_enter Try.func16, Try.ntmps16
    go_wp2
    go_ret
    exact ⟨rfl, Below.refl _ _⟩

/-- Is it worn? -/
def worn (c : Ck) : Bool := c.n == 4611686018427387904
set_option maxRecDepth 100000 in
theorem worn_any (c : Ck) (hc : CkOk c) (p : Nat) (w : World) (hp : Pk w p c) : Calls Try.prog 12 #[ptrK c p] w fun e w' => e = .returned (.bool (worn c)) ∧ w' = w := by
  have hn := now_any c hc p w hp
  unfold worn
  generalize c.n = n at *
  generalize ptrK c p = v at *
  go_enter Try.func12, Try.ntmps12
  go_wp2_with (refine hn.mono ?_; rintro e w1 ⟨rfl, rfl⟩)
  go_ret
  exact ⟨rfl, rfl⟩

end Go.Proofs.Ythlkegemkkepgaa
