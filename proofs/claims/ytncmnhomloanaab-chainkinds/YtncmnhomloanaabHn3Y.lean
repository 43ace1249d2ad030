/- A chain in memory: Last; the search for a stamp; At. -/
import Derived.Test.YtncmnhomloanaabHn2Y
namespace Go.Proofs.Ytncmnhomloanaab.kY
open Go.RowKit

set_option maxRecDepth 100000 in
set_option maxHeartbeats 400000 in
theorem last_any {w : World} {F : Nat → Prop} {p : Nat} {v : Value} {xs : List Lk} (h : Hn w F p v xs) (hl : xs.length ≤ 4000000000000) : Calls Try.prog 14 #[.pointer (some ⟨p, 0, none⟩)] w fun e w' => e = tellL (lastK xs xs.length) (decide (0 < xs.length)) ∧ Below w.heap.size w w' := by
  obtain ⟨W, hW⟩ : ∃ W, W = w.alloc (.cells #[.int .i64 0, .slice none 0 0, .bool false] 51) := ⟨_, rfl⟩
  have hb : Below w.heap.size w W := by rw [hW]; exact (Below.refl _ _).alloc (Nat.le_refl _) _
  have hlt : w.heap.size < W.heap.size := by rw [hW]; simp
  have c0 : ∀ z, Below W.heap.size W z → z.heap[w.heap.size]? = some (.cells #[.int .i64 0, .slice none 0 0, .bool false] 51 (0, 0)) := fun z hz => by
    rw [hz.block w.heap.size hlt, hW]; exact heap_alloc_new w _
  have h1 := h.below hb
  have hlen := len_any h1
  have hla : ∀ n : Int, n = (xs.length : Int) → Calls Try.prog 26 #[.pointer (some ⟨p, 0, none⟩), .int .i64 n] W fun e w' => e = tellL (lastK xs xs.length) (decide (0 < xs.length)) ∧ Below W.heap.size W w' := by
    rintro n rfl
    by_cases h0 : xs.length = 0
    · rw [h0]
      exact lastOf_zero _ _
    · have := lastOf_some h1 (xs.length - 1) (by omega) hl
      rw [show ((xs.length - 1 : Nat) : Int) + 1 = (xs.length : Int) by omega] at this
      unfold lastK
      rw [if_neg h0, decide_eq_true (by omega)]
      exact this
  generalize lastK xs xs.length = x at *
  generalize decide (0 < xs.length) = bb at *
  generalize (xs.length : Int) = n at *
  have hla := hla n rfl
  clear h h1 hl
  go_enter Try.func14, Try.ntmps14
  go_wp2_with fail
  rw [← hW]
  clear hW
  refine hlen.mono ?_
  rintro e w1 ⟨rfl, hw1⟩
  obtain rfl := hw1.symm
  clear hlen hw1
  go_wp2_with fail
  refine hla.mono ?_
  rintro e w2 ⟨rfl, hb2⟩
  have k0 := c0 w2 hb2
  have f0 : ∀ j, w2.frozen? ⟨w.heap.size, j, none⟩ = false := fun j => frozen_of_row _ _ _ _ _ k0
  have d0 : w2.cell? ⟨w.heap.size, 0, none⟩ = some (.int .i64 0) := cell_of_row _ _ _ _ _ _ k0
  have d1 : w2.cell? ⟨w.heap.size, 1, none⟩ = some (.slice none 0 0) := cell_of_row _ _ _ _ _ _ k0
  have d2 : w2.cell? ⟨w.heap.size, 2, none⟩ = some (.bool false) := cell_of_row _ _ _ _ _ _ k0
  have hz := hb2.size
  have HB := hide_it (hb.trans (hb2.mono hb.size))
  clear c0 hla hb2 k0
  unfold tellL lkV
  go_wp2
  refine bodyPost_ret (v := .tuple #[.agg #[.int .i64 x.n, .slice x.v.1 x.v.2.1 x.v.2.2, .bool x.d], .bool bb]) (by simp [results, Try.results14, d0, d1, d2, go_sem]) rfl ⟨rfl, ?_⟩
  exact ((HB.out.setCell (p := ⟨w.heap.size, 0, none⟩) (Nat.le_refl _) _).setCell (p := ⟨w.heap.size, 1, none⟩) (Nat.le_refl _) _).setCell (p := ⟨w.heap.size, 2, none⟩) (Nat.le_refl _) _

end Go.Proofs.Ytncmnhomloanaab.kY
