/- Accounts: the program's in memory; what each of their calls answers. -/
import Derived.Test.YtepkhohaahmebaaIn1
namespace Go.Proofs.Ytepkhohaahmebaa
open Go.RowKit

/-- An account: is it there, its limits, what it has counted. -/
structure Ac where
  t : Bool
  q : Int
  m : Int
  l : Int
  p : Int
  o : Int
/-- None. -/
def noAc : Ac := ⟨false, 0, 0, 0, 0, 0⟩
/-- What is known of one. -/
structure AcOk (c : Ac) : Prop where
  gone : c.t = false → c = noAc
  q : 0 ≤ c.q ∧ c.q ≤ 1048576
  m : 0 ≤ c.m ∧ c.m ≤ 32
  l : 0 ≤ c.l
  p : 0 ≤ c.p
  lp : c.l + c.p ≤ c.q
  o : 0 ≤ c.o ∧ c.o ≤ c.m
theorem noAc_ok : AcOk noAc := ⟨fun _ => rfl, by simp [noAc], by simp [noAc], by simp [noAc], by simp [noAc], by simp [noAc], by simp [noAc]⟩
/-- The document's account as a value. -/
def valA (c : Ac) : Value := .agg #[.bool c.t, .int .i64 c.q, .int .i64 c.m, .int .i64 c.l, .int .i64 c.p, .int .i64 c.o]
/-- A pointer to the program's account, or none. -/
def ptrA (c : Ac) (b : Nat) : Value := .pointer (if c.t then some ⟨b, 0, none⟩ else none)
/-- In block b lies the account c (if it is there). -/
def Pa (w : World) (b : Nat) (c : Ac) : Prop := c.t = true → w.heap[b]? = some (.cells #[.int .i64 c.q, .int .i64 c.m, .int .i64 c.l, .int .i64 c.p, .int .i64 c.o] 54 (0, 0))
section
variable {w w' : World} {b : Nat} {c : Ac}
theorem Pa.keep (h : Pa w b c) (e : w'.heap[b]? = w.heap[b]?) : Pa w' b c := fun t => e.trans (h t)
theorem Pa.lt (h : Pa w b c) (t : c.t = true) : b < w.heap.size := (Array.getElem?_eq_some_iff.1 (h t)).1
theorem Pa.below (h : Pa w b c) (hb : Below w.heap.size w w') : Pa w' b c := fun t => (hb.block b (h.lt t)).trans (h t)
theorem Pa.cells (h : Pa w b c) (t : c.t = true) : w.cell? ⟨b, 0, none⟩ = some (.int .i64 c.q) ∧ w.cell? ⟨b, 1, none⟩ = some (.int .i64 c.m) ∧ w.cell? ⟨b, 2, none⟩ = some (.int .i64 c.l) ∧ w.cell? ⟨b, 3, none⟩ = some (.int .i64 c.p) ∧ w.cell? ⟨b, 4, none⟩ = some (.int .i64 c.o) ∧ ∀ i, w.frozen? ⟨b, i, none⟩ = false :=
  ⟨cell_of_row _ _ _ _ _ _ (h t), cell_of_row _ _ _ _ _ _ (h t), cell_of_row _ _ _ _ _ _ (h t), cell_of_row _ _ _ _ _ _ (h t), cell_of_row _ _ _ _ _ _ (h t), fun _ => frozen_of_row _ _ _ _ _ (h t)⟩
theorem Pa.putO (h : Pa w b c) (n : Int) : Pa (w.setCell ⟨b, 4, none⟩ (.int .i64 n)) b { c with o := n } := fun t => by
  rw [heap_setCell_same w b 4 _ _ _ (h t)]; rfl
theorem Pa.putP (h : Pa w b c) (n : Int) : Pa (w.setCell ⟨b, 3, none⟩ (.int .i64 n)) b { c with p := n } := fun t => by
  rw [heap_setCell_same w b 3 _ _ _ (h t)]; rfl
theorem Pa.putL (h : Pa w b c) (n : Int) : Pa (w.setCell ⟨b, 2, none⟩ (.int .i64 n)) b { c with l := n } := fun t => by
  rw [heap_setCell_same w b 2 _ _ _ (h t)]; rfl
end
/-- What a call leaves of the account in block b. -/
structure Went (w : World) (b : Nat) (c c' : Ac) (w' : World) : Prop where
  pk : Pa w' b c'
  chg : Chg (fun j => c.t = true ∧ j = b) w w'
theorem Went.none {w w' : World} {b : Nat} {c : Ac} (h : Pa w b c) (hb : Below w.heap.size w w') : Went w b c c w' := ⟨h.below hb, Chg.new hb⟩

/-- May a number be one of bytes? -/
def isB (n : Int) : Bool := decide (0 ≤ n ∧ n ≤ 1048576)
/-- What New makes, and what it answers. -/
def newA (a b : Int) : Ac := if isB a && decide (0 ≤ b ∧ b ≤ 32) then ⟨true, a, b, 0, 0, 0⟩ else noAc
def newE (a b : Int) : Int := if isB a && decide (0 ≤ b ∧ b ≤ 32) then 0 else 2
/-- Begin. -/
def begA (c : Ac) : Ac := if c.t && decide (c.o < c.m) then { c with o := c.o + 1 } else c
def begE (c : Ac) : Int := if c.t then (if c.o < c.m then 0 else 151) else 1
/-- May Charge be asked so? And is there room? -/
def chgOk (c : Ac) (x y : Int) : Bool := decide (0 ≤ x ∧ x ≤ c.p) && isB y
def chgFit (c : Ac) (x y : Int) : Bool := decide (c.l + (c.p - x + y) ≤ c.q)
def chgA (c : Ac) (x y : Int) : Ac := if c.t && chgOk c x y && chgFit c x y then { c with p := c.p - x + y } else c
def chgE (c : Ac) (x y : Int) : Int := if c.t then (if chgOk c x y then (if chgFit c x y then 0 else 150) else 2) else 1
/-- End. -/
def endOk (c : Ac) (x : Int) : Bool := !(c.o == 0) && decide (0 ≤ x ∧ x ≤ c.p)
def endA (c : Ac) (x : Int) : Ac := if c.t && endOk c x then { c with o := c.o - 1, p := c.p - x } else c
def endE (c : Ac) (x : Int) : Int := if c.t then (if endOk c x then 0 else 2) else 1
/-- Settle. -/
def setFit (c : Ac) (x : Int) : Bool := decide (x + c.p ≤ c.q)
def setA (c : Ac) (x : Int) : Ac := if c.t && isB x && setFit c x then { c with l := x } else c
def setE (c : Ac) (x : Int) : Int := if c.t then (if isB x then (if setFit c x then 0 else 150) else 2) else 1

theorem newA_ok (a b : Int) : AcOk (newA a b) := by
  unfold newA
  split
  · next h =>
    simp only [isB, Bool.and_eq_true, decide_eq_true_eq] at h
    exact ⟨fun e => (by cases e), h.1, h.2, by simp, by simp, by simp; exact h.1.1, by simp; exact h.2.1⟩
  · exact noAc_ok
theorem begA_ok {c : Ac} (h : AcOk c) : AcOk (begA c) := by
  unfold begA
  split
  · next e =>
    simp only [Bool.and_eq_true, decide_eq_true_eq] at e
    have := h.o
    exact ⟨fun t => by simp [e.1] at t, h.q, h.m, h.l, h.p, h.lp, by simp; omega⟩
  · exact h
theorem chgA_ok {c : Ac} (h : AcOk c) (x y : Int) : AcOk (chgA c x y) := by
  unfold chgA
  split
  · next e =>
    simp only [Bool.and_eq_true, chgOk, chgFit, isB, decide_eq_true_eq] at e
    exact ⟨fun t => by simp [e.1.1] at t, h.q, h.m, h.l, by simp; omega, by simp; omega, h.o⟩
  · exact h
theorem endA_ok {c : Ac} (h : AcOk c) (x : Int) : AcOk (endA c x) := by
  unfold endA
  split
  · next e =>
    simp only [Bool.and_eq_true, endOk, decide_eq_true_eq, Bool.not_eq_true', beq_eq_false_iff_ne] at e
    have h1 := h.o; have h2 := h.lp
    exact ⟨fun t => by simp [e.1] at t, h.q, h.m, h.l, by simp; omega, by simp; omega, by simp; omega⟩
  · exact h
theorem setA_ok {c : Ac} (h : AcOk c) (x : Int) : AcOk (setA c x) := by
  unfold setA
  split
  · next e =>
    simp only [Bool.and_eq_true, setFit, isB, decide_eq_true_eq] at e
    exact ⟨fun t => by simp [e.1.1] at t, h.q, h.m, by simp; omega, h.p, by simp; omega, h.o⟩
  · exact h
theorem begA_t (c : Ac) : (begA c).t = c.t := by unfold begA; split <;> rfl
theorem chgA_t (c : Ac) (x y : Int) : (chgA c x y).t = c.t := by unfold chgA; split <;> rfl
theorem endA_t (c : Ac) (x : Int) : (endA c x).t = c.t := by unfold endA; split <;> rfl
theorem setA_t (c : Ac) (x : Int) : (setA c x).t = c.t := by unfold setA; split <;> rfl

set_option maxRecDepth 100000 in
theorem isBytes_any (n : Int) (w : World) : Calls Try.prog 26 #[.int .i64 n] w fun e w' => e = .returned (.bool (isB n)) ∧ w' = w := by
  unfold isB
  by_cases h1 : 0 ≤ n
  · by_cases h2 : n ≤ 1048576
    · have hd : decide (0 ≤ n ∧ n ≤ 1048576) = true := decide_eq_true ⟨h1, h2⟩
      rw [hd]; clear hd
      go_enter Try.func26, Try.ntmps26
      go_wp2
      go_ret
      exact ⟨rfl, rfl⟩
    · have hd : decide (0 ≤ n ∧ n ≤ 1048576) = false := decide_eq_false (by omega)
      rw [hd]; clear hd
      go_enter Try.func26, Try.ntmps26
      go_wp2
      go_ret
      exact ⟨rfl, rfl⟩
  · have hd : decide (0 ≤ n ∧ n ≤ 1048576) = false := decide_eq_false (by omega)
    rw [hd]; clear hd
    go_enter Try.func26, Try.ntmps26
    go_wp2
    go_ret
    exact ⟨rfl, rfl⟩

set_option maxRecDepth 100000 in
set_option maxHeartbeats 400000 in
theorem new_any (a b x y z : Int) (w : World) : Calls Try.prog 24 #[.agg #[.int .i64 a, .int .i64 b, .int .i64 x, .int .i64 y, .int .i64 z]] w fun e w' => e = .returned (.tuple #[ptrA (newA a b) (w.heap.size + 1), .int .i64 (newE a b)]) ∧ Pa w' (w.heap.size + 1) (newA a b) ∧ Below w.heap.size w w' := by
  have hb := isBytes_any a
  have hend : ∀ W : World, Below w.heap.size w W → Below w.heap.size w (W.alloc (.cells #[.int .i64 a, .int .i64 b, .int .i64 0, .int .i64 0, .int .i64 0] 54)) := fun W h => h.alloc h.size _
  have hend := hide_it hend
  have h0 : Below w.heap.size w (w.alloc (.cells #[.int .i64 a, .int .i64 b, .int .i64 x, .int .i64 y, .int .i64 z] 52)) := (Below.refl _ _).alloc (Nat.le_refl _) _
  have hz : (w.alloc (.cells #[.int .i64 a, .int .i64 b, .int .i64 x, .int .i64 y, .int .i64 z] 52)).heap.size = w.heap.size + 1 := by simp
  cases h1 : isB a with
  | true =>
    rw [h1] at hb
    by_cases h2 : 0 ≤ b
    · by_cases h3 : b ≤ 32
      · have e1 : newA a b = ⟨true, a, b, 0, 0, 0⟩ := by simp [newA, h1, h2, h3]
        have e2 : newE a b = 0 := by simp [newE, h1, h2, h3]
        rw [e1, e2]
        clear e1 e2 h1
        have H0 := hide_it h0
        have HZ := hide_it hz
        clear h0 hz
        go_enter Try.func24, Try.ntmps24
        go_wp2_with (refine (hb _).mono ?_; rintro e w1 ⟨rfl, rfl⟩)
        go_ret2
        have h9 := heap_alloc_new (w.alloc (.cells #[.int .i64 a, .int .i64 b, .int .i64 x, .int .i64 y, .int .i64 z] 52)) (.cells #[.int .i64 a, .int .i64 b, .int .i64 0, .int .i64 0, .int .i64 0] 54)
        rw [HZ.out] at h9
        exact ⟨rfl, fun _ => h9, hend.out _ H0.out⟩
      · have e1 : newA a b = noAc := by simp [newA, h1, h2, h3]
        have e2 : newE a b = 2 := by simp [newE, h1, h2, h3]
        rw [e1, e2]
        clear e1 e2 h1
        have H0 := hide_it h0
        clear h0 hz
        go_enter Try.func24, Try.ntmps24
        go_wp2_with (refine (hb _).mono ?_; rintro e w1 ⟨rfl, rfl⟩)
        go_ret2
        exact ⟨rfl, (fun e => by cases e), H0.out⟩
    · have e1 : newA a b = noAc := by simp [newA, h1, h2]
      have e2 : newE a b = 2 := by simp [newE, h1, h2]
      rw [e1, e2]
      clear e1 e2 h1
      have H0 := hide_it h0
      clear h0 hz
      go_enter Try.func24, Try.ntmps24
      go_wp2_with (refine (hb _).mono ?_; rintro e w1 ⟨rfl, rfl⟩)
      go_ret2
      exact ⟨rfl, (fun e => by cases e), H0.out⟩
  | false =>
    rw [h1] at hb
    have e1 : newA a b = noAc := by simp [newA, h1]
    have e2 : newE a b = 2 := by simp [newE, h1]
    rw [e1, e2]
    clear e1 e2 h1
    have H0 := hide_it h0
    clear h0 hz
    go_enter Try.func24, Try.ntmps24
    go_wp2_with (refine (hb _).mono ?_; rintro e w1 ⟨rfl, rfl⟩)
    go_ret2
    exact ⟨rfl, (fun e => by cases e), H0.out⟩

/- The calls that tell alone. -/
set_option maxRecDepth 100000 in
theorem pending_any (c : Ac) (hc : AcOk c) (b : Nat) (w : World) (hp : Pa w b c) : Calls Try.prog 20 #[ptrA c b] w fun e w' => e = .returned (.int .i64 c.p) ∧ w' = w := by
  cases ht : c.t with
  | true =>
    obtain ⟨_, _, _, h1, _, _⟩ := hp.cells ht
    unfold ptrA
    rw [ht]
    clear ht
    go_enter Try.func20, Try.ntmps20
    go_wp2
    go_ret
    exact ⟨rfl, rfl⟩
  | false =>
    unfold ptrA
    rw [ht, show c.p = 0 by rw [hc.gone ht]; rfl]
    clear ht
    go_enter Try.func20, Try.ntmps20
    go_wp2
    go_ret
    exact ⟨rfl, rfl⟩

set_option maxRecDepth 100000 in
theorem open_any (c : Ac) (hc : AcOk c) (b : Nat) (w : World) (hp : Pa w b c) : Calls Try.prog 21 #[ptrA c b] w fun e w' => e = .returned (.int .i64 c.o) ∧ w' = w := by
  cases ht : c.t with
  | true =>
    obtain ⟨_, _, _, _, h1, _⟩ := hp.cells ht
    unfold ptrA
    rw [ht]
    clear ht
    go_enter Try.func21, Try.ntmps21
    go_wp2
    go_ret
    exact ⟨rfl, rfl⟩
  | false =>
    unfold ptrA
    rw [ht, show c.o = 0 by rw [hc.gone ht]; rfl]
    clear ht
    go_enter Try.func21, Try.ntmps21
    go_wp2
    go_ret
    exact ⟨rfl, rfl⟩

set_option maxRecDepth 100000 in
theorem used_any (c : Ac) (hc : AcOk c) (b : Nat) (w : World) (hp : Pa w b c) : Calls Try.prog 18 #[ptrA c b] w fun e w' => e = .returned (.int .i64 (c.l + c.p)) ∧ Below w.heap.size w w' := by
  cases ht : c.t with
  | true =>
    obtain ⟨_, _, h1, h2, _, _⟩ := hp.cells ht
    have hw : IntKind.i64.wrap (c.l + c.p) = c.l + c.p := by have := hc.lp; have := hc.l; have := hc.p; have := hc.q; exact i64_in (by omega) (by omega)
    unfold ptrA
    rw [ht]
    clear ht hc hp
    generalize c.l = l at *
    generalize c.p = p at *
    go_enter Try.func18, Try.ntmps18
    go_wp2
    go_quiet (fail)
    go_wp2
    go_ret
    exact ⟨rfl, below_drewN (Below.refl _ _) _⟩
  | false =>
    unfold ptrA
    rw [ht, show c.l + c.p = 0 by rw [hc.gone ht]; rfl]
    clear ht
    go_enter Try.func18, Try.ntmps18
    go_wp2
    go_ret
    exact ⟨rfl, Below.refl _ _⟩

end Go.Proofs.Ytepkhohaahmebaa
