/- The law on a chain that is not there, walked. -/
import Derived.Test.YtncmnhomloanaaaHl3
namespace Go.Proofs.Ytncmnhomloanaaa.chainNone
open Go.RowKit

set_option maxRecDepth 100000 in
set_option maxHeartbeats 4000000 in
theorem walk (n : Int) (_ : -9223372036854775808 ≤ n ∧ n ≤ 9223372036854775807) (v : ByteArray) (w : World) (_ : v.size ≤ 140737488351232) : Calls Try.prog 6 #[.int .i64 n, .string v] w fun e w' => e = .returned (.bool true) ∧ Below w.heap.size w w' := by
  have h1 := at_none n w
  unfold tellL lkV zeroLk at h1
  go_enter Try.func6, Try.ntmps6
  go_wp2_with fail
  refine h1.mono ?_
  rintro e w1 ⟨rfl, b1⟩
  obtain ⟨W1, hW1⟩ : ∃ W, W = w1.alloc (.cells #[.int .i64 0, .string ⟨#[]⟩, .bool false] 38) := ⟨_, rfl⟩
  have k1 : W1.heap[w1.heap.size]? = some (.cells #[.int .i64 0, .string ⟨#[]⟩, .bool false] 38 (0, 0)) := by rw [hW1]; exact heap_alloc_new w1 _
  have hB1 : Below w.heap.size w W1 := by rw [hW1]; exact b1.trans (((Below.refl _ _).alloc (Nat.le_refl _) _).mono b1.size)
  have h2 := last_none W1
  unfold tellL lkV zeroLk at h2
  obtain ⟨p1, hp1⟩ : ∃ p1, p1 = w1.heap.size := ⟨_, rfl⟩
  rw [← hp1] at k1
  have l1 := (Array.getElem?_eq_some_iff.1 k1).1
  clear h1 b1
  go_wp2_with fail
  rw [← hW1, ← hp1]
  clear hW1 hp1
  refine h2.mono ?_
  rintro e w2 ⟨rfl, b2⟩
  obtain ⟨W2, hW2⟩ : ∃ W, W = w2.alloc (.cells #[.int .i64 0, .string ⟨#[]⟩, .bool false] 38) := ⟨_, rfl⟩
  have k2 : W2.heap[w2.heap.size]? = some (.cells #[.int .i64 0, .string ⟨#[]⟩, .bool false] 38 (0, 0)) := by rw [hW2]; exact heap_alloc_new w2 _
  have b22 : Below W1.heap.size W1 W2 := by rw [hW2]; exact b2.trans (((Below.refl _ _).alloc (Nat.le_refl _) _).mono b2.size)
  have k12 : W2.heap[p1]? = _ := (b22.block p1 l1).trans k1
  have hB2 := hB1.trans (b22.mono hB1.size)
  have h3 := add_none ⟨n, v, false⟩ W2
  unfold lkV at h3
  obtain ⟨p2, hp2⟩ : ∃ p2, p2 = w2.heap.size := ⟨_, rfl⟩
  rw [← hp2] at k2
  have l2 := (Array.getElem?_eq_some_iff.1 k2).1
  have l12 := (Array.getElem?_eq_some_iff.1 k12).1
  clear h2 b2 b22 k1 l1 hB1
  go_wp2_with fail
  rw [← hW2, ← hp2]
  clear hW2 hp2
  refine h3.mono ?_
  rintro e w3 ⟨rfl, b3⟩
  have k13 := (b3.block p1 l12).trans k12
  have k23 := (b3.block p2 l2).trans k2
  have hB3 := hB2.trans (b3.mono hB2.size)
  have l13 := (Array.getElem?_eq_some_iff.1 k13).1
  have l23 := (Array.getElem?_eq_some_iff.1 k23).1
  have q0 : w3.cell? ⟨p1, 0, none⟩ = some (.int .i64 0) := cell_of_row _ _ _ _ _ _ k13
  have q1 : w3.cell? ⟨p1, 1, none⟩ = some (.string ⟨#[]⟩) := cell_of_row _ _ _ _ _ _ k13
  have q2 : w3.cell? ⟨p1, 2, none⟩ = some (.bool false) := cell_of_row _ _ _ _ _ _ k13
  have h4 := fun z => alike_same zeroLk z
  unfold lkV zeroLk at h4
  clear h3 b3 k12 k2 k13 l2 l12 hB2
  go_wp2_with fail
  refine (h4 w3).mono ?_
  rintro e w4 ⟨rfl, b4⟩
  have k24 := (b4.block p2 l23).trans k23
  have q0 : w4.cell? ⟨p2, 0, none⟩ = some (.int .i64 0) := cell_of_row _ _ _ _ _ _ k24
  have q1 : w4.cell? ⟨p2, 1, none⟩ = some (.string ⟨#[]⟩) := cell_of_row _ _ _ _ _ _ k24
  have q2 : w4.cell? ⟨p2, 2, none⟩ = some (.bool false) := cell_of_row _ _ _ _ _ _ k24
  have hB4 := hB3.trans (b4.mono hB3.size)
  clear b4 k23 k24 l13 l23 hB3
  go_wp2_with fail
  refine (h4 w4).mono ?_
  rintro e w5 ⟨rfl, b5⟩
  have hB5 := hB4.trans (b5.mono hB4.size)
  have h6 := prune_none n w5
  clear b5 hB4 q0 q1 q2 h4
  go_wp2_with fail
  refine h6.mono ?_
  rintro e w6 ⟨rfl, b6⟩
  have hB6 := hB5.trans (b6.mono hB5.size)
  have h7 := len_none w6
  clear b6 hB5 h6
  go_wp2_with fail
  refine h7.mono ?_
  rintro e w7 ⟨rfl, hw7⟩
  obtain rfl := hw7.symm
  have h8 := walk_none w6
  clear h7 hw7
  go_wp2_with fail
  refine h8.mono ?_
  rintro e w8 ⟨⟨a8, c8, rfl⟩, b8⟩
  have hB8 := hB6.trans (b8.mono hB6.size)
  have h9 := awake_any w8
  clear b8 hB6 h8
  go_wp2_with fail
  refine h9.mono ?_
  rintro e w9 ⟨rfl, b9⟩
  have HB := hide_it (hB8.trans (b9.mono hB8.size))
  clear h9 b9 hB8
  go_wp2
  go_ret
  exact ⟨rfl, HB.out⟩
end Go.Proofs.Ytncmnhomloanaaa.chainNone
