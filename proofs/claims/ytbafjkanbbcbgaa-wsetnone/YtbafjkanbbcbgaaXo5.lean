/- The calls whose answers the document fixes. -/
import Derived.Test.YtbafjkanbbcbgaaXo4
namespace Go.Proofs.Ytbafjkanbbcbgaa
open Go.RowKit Go.Maps Go.Shelf

attribute [local go_sem] Oper.semAt_some

/-- A set that was made since, and what it holds. -/
structure Has (w : World) (s : Nat) (C : Wc) (W : World) : Prop where
  ex : ∃ F mb M, Wst W F s mb M ∧ saysV M = C ∧ ∀ j, F j → w.heap.size ≤ j
  bel : Below w.heap.size w W
theorem Has.below {w W W' : World} {s : Nat} {C : Wc} (h : Has w s C W) (hb : Below W.heap.size W W') : Has w s C W' := by
  obtain ⟨F, mb, M, h1, h2, h3⟩ := h.ex
  exact ⟨⟨F, mb, M, h1.below hb, h2, h3⟩, h.bel.trans (hb.mono h.bel.size)⟩
theorem Has.wrote {w W W' : World} {s : Nat} {C : Wc} {F : Nat → Prop} (h : Below w.heap.size w W) (h3 : ∀ j, F j → w.heap.size ≤ j) (hw : Wrote W F s C W') : Has w s C W' := by
  obtain ⟨mb', M', h5, h6, h7⟩ := hw
  refine ⟨⟨_, mb', M', h5, h6, fun j hj => ?_⟩, ⟨h7.os.trans h.os, h7.tape.trans h.tape, h7.output.trans h.output, Nat.le_trans h.size h7.size, fun k hk => (h7.block k (Nat.lt_of_lt_of_le hk h.size) fun e => by have := h3 k e; omega).trans (h.block k hk)⟩⟩
  rcases hj with hj | hj
  · exact h3 j hj
  · exact Nat.le_trans h.size hj.1
theorem Has.len {w W : World} {s : Nat} {C : Wc} (h : Has w s C W) : C.length ≤ 4000000000000 := by
  obtain ⟨F, mb, M, h1, h2, h3⟩ := h.ex
  rw [← h2]
  have := h1.len
  unfold saysV
  simpa using this
theorem Has.put {w W : World} {s : Nat} {C : Wc} (h : Has w s C W) (k : ByteArray) (a : Option Addr) (z : List Nat) (c : Nat) (hr : RowB W a z) (hnil : a = none → z.length = 0 ∧ c = 0) (hl : C.length + 1 ≤ 4000000000000) :
    Calls Try.prog 15 #[.pointer (some ⟨s, 0, none⟩), .string k, .slice a z.length c] W fun e w' => e = .returned (.int .i64 (errA k z)) ∧ Has w s (writeA C (putX k a z c)) w' := by
  obtain ⟨F, mb, M, h1, h2, h3⟩ := h.ex
  refine (put_any h1 k a z c hr hnil (by rw [← h2] at hl; unfold saysV at hl; simpa using hl)).mono ?_
  rintro e w' ⟨h4, h5⟩
  rw [h2] at h5
  exact ⟨h4, .wrote h.bel h3 h5⟩
theorem Has.delete {w W : World} {s : Nat} {C : Wc} (h : Has w s C W) (k : ByteArray) (hl : C.length + 1 ≤ 4000000000000) :
    Calls Try.prog 16 #[.pointer (some ⟨s, 0, none⟩), .string k] W fun e w' => e = .returned (.int .i64 (errA k [])) ∧ Has w s (writeA C (delX k)) w' := by
  obtain ⟨F, mb, M, h1, h2, h3⟩ := h.ex
  refine (delete_any h1 k (by rw [← h2] at hl; unfold saysV at hl; simpa using hl)).mono ?_
  rintro e w' ⟨h4, h5⟩
  rw [h2] at h5
  exact ⟨h4, .wrote h.bel h3 h5⟩
theorem Has.len_ {w W : World} {s : Nat} {C : Wc} (h : Has w s C W) : Calls Try.prog 20 #[.pointer (some ⟨s, 0, none⟩)] W fun e w' => e = .returned (.int .i64 (C.length : Int)) ∧ w' = W := by
  obtain ⟨F, mb, M, h1, h2, h3⟩ := h.ex
  refine (len_any h1).mono ?_
  rintro e w' ⟨h4, h5⟩
  refine ⟨?_, h5⟩
  rw [h4, ← h2]; unfold saysV; simp
theorem Has.bytes {w W : World} {s : Nat} {C : Wc} (h : Has w s C W) : Calls Try.prog 19 #[.pointer (some ⟨s, 0, none⟩)] W fun e w' => e = .returned (.int .i64 (bytesA C : Int)) ∧ Below W.heap.size W w' := by
  obtain ⟨F, mb, M, h1, h2, h3⟩ := h.ex
  rw [← h2]
  exact bytes_any h1
theorem Has.over {w W : World} {s : Nat} {C : Wc} (h : Has w s C W) (fr to : ByteArray) (pa : Option Addr) (pc : Nat) (most : Int) {us : List Pn} (hR : RowU W pa us) (hl : C.length + us.length ≤ 4000000000000) (hus : ∀ x ∈ us, x.k.size ≤ maxLen) :
    Calls Try.prog 14 #[.pointer (some ⟨s, 0, none⟩), .string fr, .string to, .slice pa us.length pc, .int .i64 most] W fun e w' => GotO W w' us (ovA C fr.data.toList to.data.toList (saysP us)) most e ∧ Below W.heap.size W w' := by
  obtain ⟨F, mb, M, h1, h2, h3⟩ := h.ex
  rw [← h2] at hl ⊢
  exact overL_any _ fr to pa pc most W (.inr ⟨s, mb, rfl, h1⟩) h1.lt hR (by unfold saysV at hl; simpa using hl) hus
theorem Has.new (w : World) : Has w w.heap.size [] (w.alloc (.cells #[.map none] 32)) :=
  ⟨⟨_, none, [], wst_new w, rfl, fun _j hj => Nat.le_of_eq hj.symm⟩, (Below.refl _ _).alloc (Nat.le_refl _) _⟩

end Go.Proofs.Ytbafjkanbbcbgaa
