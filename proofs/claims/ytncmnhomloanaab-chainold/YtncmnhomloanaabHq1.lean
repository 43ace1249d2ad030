/- A pair that is a law's own, through rows of steps; a chain to which a script was done. -/
import Derived.Test.YtncmnhomloanaabHp4
namespace Go.Proofs.Ytncmnhomloanaab
open Go.RowKit

/-- All that was made since w. -/
def Since (w wr : World) (j : Nat) : Prop := w.heap.size ≤ j ∧ j < wr.heap.size
/-- A pair in what was made since w; nothing older has changed. -/
structure Own0 (w wr : World) (q p : Nat) (xs : List Lk) : Prop where
  pr : ∃ v d, Pr wr (Since w wr) q p v d xs
  bel : Below w.heap.size w wr
theorem Own0.step {w wr w' : World} {q p : Nat} {xs ys : List Lk} (h : Own0 w wr q p xs) (k : StepTo wr (Since w wr) q p ys w') : Own0 w w' q p ys := by
  obtain ⟨v, d, hp⟩ := k.pr
  have hz := h.bel.size
  have hz2 := k.chg.size
  refine ⟨⟨v, d, hp.mono (fun j hj => ?_) (fun j hj => hj.2)⟩, h.bel.trans (k.chg.below (fun j hj => hj.1) hz)⟩
  rcases hj with ⟨h1, h2⟩ | ⟨h1, h2⟩
  · exact ⟨h1, by omega⟩
  · exact ⟨by omega, h2⟩
theorem Own0.below {w wr w' : World} {q p : Nat} {xs : List Lk} (h : Own0 w wr q p xs) (hb : Below wr.heap.size wr w') : Own0 w w' q p xs := by
  obtain ⟨v, d, hp⟩ := h.pr
  exact ⟨⟨v, d, (hp.below hb).mono (fun j hj => ⟨hj.1, Nat.lt_of_lt_of_le hj.2 hb.size⟩) (fun j hj => hj.2)⟩, h.bel.trans (hb.mono h.bel.size)⟩
theorem own0_new (w W : World) (hb : Below w.heap.size w W) : Own0 w ((W.alloc (.cells #[.slice none 0 0] 60)).alloc (.cells #[.pointer (some ⟨W.heap.size, 0, none⟩), .slice none 0 0] 63)) (W.heap.size + 1) W.heap.size [] := by
  have hz := hb.size
  exact ⟨⟨_, _, (pr_new W).mono (fun j hj => ⟨by omega, by simp; omega⟩) (fun j hj => hj.2)⟩, (hb.alloc hz _).alloc (by simp; omega) _⟩
theorem Own0.call {w wr : World} {q p : Nat} {xs : List Lk} (h : Own0 w wr q p xs) (hl : xs.length ≤ 3600000000000) (s : Stc) (hs : -9223372036854775808 ≤ s.n ∧ s.n ≤ 9223372036854775807) :
    Calls Try.prog 16 #[.pointer (some ⟨q, 0, none⟩), .agg #[.int .i64 s.k, .int .i64 s.n, .string s.v, .bool s.d]] wr fun e w' => e = .returned (.bool true) ∧ Own0 w w' q p (nxt xs s) := by
  obtain ⟨v, d, hp⟩ := h.pr
  exact (step_any hp hl s hs).mono fun e w' ⟨h1, h2⟩ => ⟨h1, h.step h2⟩

/-- What a script leaves, step by step. -/
def runL (A : Nat → Stc) : Nat → List Lk
  | 0 => []
  | k + 1 => nxt (runL A k) (A k)
theorem runL_len (A : Nat → Stc) (k : Nat) : (runL A k).length ≤ k := by
  induction k with
  | zero => simp [runL]
  | succ k ih => have := nxt_len (runL A k) (A k); unfold runL; omega


set_option maxRecDepth 100000 in
set_option maxHeartbeats 2000000 in
theorem played_any (a : Option Addr) (n c : Nat) (A : Nat → Stc) (w : World) (ha : CameStc w a n A) :
    Calls Try.prog 5 #[.slice a n c] w fun e w' => (∃ p v, e = .returned (.pointer (some ⟨p, 0, none⟩)) ∧ Hn w' (Fc p v) p v (runL A n) ∧ (∀ j, Fc p v j → w.heap.size ≤ j)) ∧ Below w.heap.size w w' := by
  have hn := ha.size
  have hrow := ha.row
  have heach := hide_it ha.each
  clear ha
  have hS0 := own0_new w w (Below.refl _ _)
  obtain ⟨W0, hW0⟩ : ∃ W0, W0 = (w.alloc (.cells #[.slice none 0 0] 60)).alloc (.cells #[.pointer (some ⟨w.heap.size, 0, none⟩), .slice none 0 0] 63) := ⟨_, rfl⟩
  obtain ⟨q, hq⟩ : ∃ q, q = w.heap.size + 1 := ⟨_, rfl⟩
  rw [← hW0, ← hq] at hS0
  have HS0 := hide_it hS0
  clear hS0
  go_enter Try.func5, Try.ntmps5
  go_wp2_with fail
  rw [← hW0, ← hq]
  clear hW0 hq
  go_loopw [4] (fun i wr => ∃ (k : Nat), k ≤ n ∧ i = .int .i64 (k : Int) ∧ Hid (Own0 w wr q w.heap.size (runL A k))) (fun i _ => n - (intOf i).toNat)
  case atStart => exact ⟨0, by omega, rfl, HS0⟩
  case round =>
    clear HS0
    obtain ⟨k, hk, rfl, HS⟩ := hrel
    have hxl := runL_len A k
    by_cases hlt : k < n
    · have HR : Hid (nxt (runL A k) (A k) = runL A (k + 1)) := rfl
      have hki : (k : Int) < (n : Int) := by omega
      have hw1 : IntKind.i64.wrap ((k : Int) + 1) = (k : Int) + 1 := i64_in (by omega) (by omega)
      obtain ⟨b2, o2, rfl, l2, c0, c1, c2, c3⟩ := hrow.here hlt
      have d0 := (HS.out.bel.cell (p := ⟨b2, o2 + k * 4, none⟩) l2).trans c0
      have d1 := (HS.out.bel.cell (p := ⟨b2, o2 + k * 4 + 1, none⟩) l2).trans c1
      have d2 := (HS.out.bel.cell (p := ⟨b2, o2 + k * 4 + 2, none⟩) l2).trans c2
      have d3 := (HS.out.bel.cell (p := ⟨b2, o2 + k * 4 + 3, none⟩) l2).trans c3
      have hst := HS.out.call (by omega) (A k) (heach.out k hlt).n
      rw [HR.out] at hst
      generalize A k = s at *
      clear c0 c1 c2 c3 hrow HS hxl HR
      go_wp2_with fail
      refine hst.mono ?_
      rintro e w1 ⟨rfl, hS1⟩
      have HS1 := hide_it hS1
      clear hst hS1 d0 d1 d2 d3
      go_wp2
      go_roundw
      case rel => exact ⟨k + 1, by omega, by go_num, HS1⟩
      case measure => simp [intOf]; omega
    · obtain rfl : k = n := by omega
      obtain ⟨v, d, hp⟩ := HS.out.pr
      have r0 := hp.cells.1
      have HB := hide_it HS.out.bel
      have HP := hide_it hp
      clear HS hp hrow hxl
      go_wp2
      go_ret
      exact ⟨⟨_, v, rfl, HP.out.hn, fun j hj => (HP.out.fc j hj).1⟩, HB.out⟩


end Go.Proofs.Ytncmnhomloanaab
