/- Writes laid over pairs, as mathematics; Over. -/
import Derived.Test.YtbafjkanbbcbgaaXv2
namespace Go.Proofs.Ytbafjkanbbcbgaa
open Go.RowKit Go.Maps Go.Shelf

abbrev Pw := List UInt8 × List Nat
/-- At or below. -/
def leK (a b : List UInt8) : Bool := !bytesBefore b a
/-- What a walk tells, thing by thing, and how many pairs were asked for by then: n were, ps are the puts that are left, wr tells what was written. -/
def ovT (wr : List UInt8 → Bool) : Nat → List Pw → List Pw → List (Pw × Nat)
  | n, ps, [] => ps.map fun p => (p, n)
  | n, ps, u :: us => ((ps.takeWhile fun p => leK p.1 u.1).map fun p => (p, n + 1)) ++ ((if wr u.1 then [] else [(u, n + 1)]) ++ ovT wr (n + 1) (ps.dropWhile fun p => leK p.1 u.1) us)
theorem ovT_put {wr : List UInt8 → Bool} {n : Nat} {p u : Pw} {ps us : List Pw} (h : leK p.1 u.1 = true) : ovT wr n (p :: ps) (u :: us) = (p, n + 1) :: ovT wr n ps (u :: us) := by
  unfold ovT
  rw [List.takeWhile_cons, List.dropWhile_cons, if_pos h, if_pos h]; rfl
theorem ovT_pair {wr : List UInt8 → Bool} {n : Nat} {u : Pw} {ps us : List Pw} (h : ∀ p, ps.head? = some p → leK p.1 u.1 = false) : ovT wr n ps (u :: us) = (if wr u.1 then [] else [(u, n + 1)]) ++ ovT wr (n + 1) ps us := by
  rw [ovT]
  cases ps with
  | nil => rfl
  | cons p r =>
    have := h p rfl
    simp [this]
def prX (y : Vn) : Pw := (ky y, y.z)
def prU (x : Pn) : Pw := (x.k.data.toList, x.z)
theorem saysP_eq (xs : List Pn) : saysP xs = xs.map prU := rfl
/-- The puts as pairs. -/
def putsP (C : Wc) (fr to : List UInt8) : List Pw := (putsW C fr to).map fun e => (e.1, e.2.b)
def isW (C : Wc) (k : List UInt8) : Bool := (getW C k).isSome
theorem isW_says (M : List Vn) (k : List UInt8) : (vnOf M k).isSome = isW (saysV M) k := by
  unfold isW; rw [getW_says, Option.isSome_map]
/-- What Over tells. -/
def ovA (C : Wc) (fr to : List UInt8) (us : List Pw) : List (Pw × Nat) := ovT (isW C) 0 (putsP C fr to) us
theorem ovT_len (wr : List UInt8 → Bool) : ∀ (us : List Pw) (n : Nat) (ps : List Pw), (ovT wr n ps us).length ≤ ps.length + us.length
  | [], n, ps => by simp [ovT]
  | u :: us, n, ps => by
    have ih := ovT_len wr us (n + 1) (ps.dropWhile fun p => leK p.1 u.1)
    have h1 : (ps.takeWhile fun p => leK p.1 u.1).length + (ps.dropWhile fun p => leK p.1 u.1).length = ps.length := by
      rw [← List.length_append, List.takeWhile_append_dropWhile]
    rw [ovT, List.length_append, List.length_map, List.length_append, List.length_cons]
    have h2 : (if wr u.1 then ([] : List (Pw × Nat)) else [(u, n + 1)]).length ≤ 1 := by split <;> simp
    omega

/-- The four boxes of what Over answers. -/
structure Ov4 (W : World) (B : Nat) (p : Option Addr) (fr to : ByteArray) (uv : Value) : Prop where
  b0 : Boxed W B 25 (.pointer p)
  b1 : Boxed W (B + 1) 9 (.string fr)
  b2 : Boxed W (B + 2) 9 (.string to)
  b3 : Boxed W (B + 3) 74 uv
theorem Ov4.keep {W W' : World} {B : Nat} {p : Option Addr} {fr to : ByteArray} {uv : Value} (h : Ov4 W B p fr to uv) (hk : ∀ j, B ≤ j → j < B + 4 → W'.heap[j]? = W.heap[j]?) : Ov4 W' B p fr to uv :=
  ⟨(hk _ (by omega) (by omega)).trans h.b0, (hk _ (by omega) (by omega)).trans h.b1, (hk _ (by omega) (by omega)).trans h.b2, (hk _ (by omega) (by omega)).trans h.b3⟩
theorem Ov4.below {W W' : World} {B : Nat} {p : Option Addr} {fr to : ByteArray} {uv : Value} (h : Ov4 W B p fr to uv) (hb : Below W.heap.size W W') : Ov4 W' B p fr to uv :=
  h.keep fun j h1 h2 => hb.block j (by have := h.b3.lt; omega)

def isF (v : Value) : Prop := v = .nilFunc ∨ ∃ fn a b, v = .func fn a b
set_option maxRecDepth 100000 in
set_option maxHeartbeats 1000000 in
theorem over_fn (p : Option Addr) (fr to : ByteArray) (uv : Value) (huv : isF uv) (w : World) :
    Calls Try.prog 35 #[.pointer p, .string fr, .string to, uv] w fun e w' => e = .returned (.func (.func 45) #[] #[.pointer (some ⟨w.heap.size, 0, none⟩), .pointer (some ⟨w.heap.size + 1, 0, none⟩), .pointer (some ⟨w.heap.size + 2, 0, none⟩), .pointer (some ⟨w.heap.size + 3, 0, none⟩)]) ∧ Ov4 w' w.heap.size p fr to uv ∧ Below w.heap.size w w' ∧ w'.heap.size = w.heap.size + 4 := by
  have hmf : ∀ (fn : Fn) (first cap : Array Value) (w : World), (Instr.makeFunc fn first cap).run Try.prog w = .ok (.func fn first cap) w := fun _ _ _ _ => rfl
  obtain ⟨W, hW⟩ : ∃ W, W = (((w.alloc (.cells #[.pointer p] 25)).alloc (.cells #[.string fr] 9)).alloc (.cells #[.string to] 9)).alloc (.cells #[uv] 74) := ⟨_, rfl⟩
  have hb : Below w.heap.size w W := by rw [hW]; exact ((((Below.refl _ _).alloc (Nat.le_refl _) _).alloc (by simp) _).alloc (by simp; omega) _).alloc (by simp; omega) _
  have hz : W.heap.size = w.heap.size + 4 := by rw [hW]; simp
  have hs : Ov4 W w.heap.size p fr to uv := by
    rw [hW]
    refine ⟨(((Boxed.new w _ _).alloc _).alloc _).alloc _, ?_, ?_, ?_⟩
    · have := Boxed.new (w.alloc (.cells #[.pointer p] 25)) 9 (.string fr)
      rw [show (w.alloc (.cells #[.pointer p] 25)).heap.size = w.heap.size + 1 by simp] at this
      exact (this.alloc _).alloc _
    · have := Boxed.new ((w.alloc (.cells #[.pointer p] 25)).alloc (.cells #[.string fr] 9)) 9 (.string to)
      rw [show ((w.alloc (.cells #[.pointer p] 25)).alloc (.cells #[.string fr] 9)).heap.size = w.heap.size + 2 by simp] at this
      exact this.alloc _
    · have := Boxed.new (((w.alloc (.cells #[.pointer p] 25)).alloc (.cells #[.string fr] 9)).alloc (.cells #[.string to] 9)) 74 uv
      rw [show (((w.alloc (.cells #[.pointer p] 25)).alloc (.cells #[.string fr] 9)).alloc (.cells #[.string to] 9)).heap.size = w.heap.size + 3 by simp] at this
      exact this
  rcases huv with rfl | ⟨fn, a, b, rfl⟩
  all_goals
    go_enter Try.func35, Try.ntmps35
    go_wp2_with fail
    rw [← hW]
    clear hW
    go_ret
    exact ⟨rfl, hs, hb, hz⟩

theorem listened_fn (uv : Value) (huv : isF uv) (w : World) : Calls Try.prog 48 #[uv] w fun e w' => e = .returned (.func (.func 55) #[] #[.pointer (some ⟨w.heap.size, 0, none⟩)]) ∧ w' = w.alloc (.cells #[uv] 74) := by
  have hmf : ∀ (fn : Fn) (first cap : Array Value) (w : World), (Instr.makeFunc fn first cap).run Try.prog w = .ok (.func fn first cap) w := fun _ _ _ _ => rfl
  rcases huv with rfl | ⟨fn, a, b, rfl⟩
  all_goals
    go_enter Try.func48, Try.ntmps48
    go_wp2
    go_ret
    exact ⟨rfl, rfl⟩

end Go.Proofs.Ytbafjkanbbcbgaa
