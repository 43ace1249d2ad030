/- The law on a reader that is not there, walked. -/
import Derived.Test.YtfhinodieghklaaOpenS
namespace Go.Proofs.Ytfhinodieghklaa.codecNone
open Go.RowKit

theorem none_step (k low high most : Int) : stepOf k low high most ([], 1) = ((if k = 8 ∨ k = 9 then 1 else 0, []), ([], 1)) := by
  have hr : ∀ {A : Type} (z : A) (t : List Nat → Except Nat (A × List Nat)), rdOf z t ([], 1) = (z, ([], 1)) := fun z t => if_pos (by decide)
  unfold stepOf
  simp only [hr]
  by_cases h0 : k = 0
  · subst h0; rfl
  by_cases h1 : k = 1
  · subst h1; rfl
  by_cases h2 : k = 2
  · subst h2; rfl
  by_cases h3 : k = 3
  · subst h3; rfl
  by_cases h4 : k = 4
  · subst h4; rfl
  by_cases h5 : k = 5
  · subst h5; rfl
  by_cases h6 : k = 6
  · subst h6; rfl
  by_cases h7 : k = 7
  · subst h7; rfl
  by_cases h8 : k = 8
  · subst h8; rfl
  by_cases h9 : k = 9
  · subst h9; rfl
  simp [h0, h1, h2, h3, h4, h5, h6, h7, h8, h9]

set_option maxRecDepth 100000 in
set_option maxHeartbeats 1000000 in
theorem walk (a : Option Addr) (n cap : Nat) (A : Nat → Nat → Int) (w : World) (hc : CameS w a n A) :
    Calls Try.prog 8 #[.slice a n cap] w fun e w' => e = .returned (.bool true) ∧ Below w.heap.size w w' := by
  have hn := hc.size
  go_enter Try.func8, Try.ntmps8
  go_wp2_with fail
  go_loopw [11] (fun i wr => ∃ k : Nat, k ≤ n ∧ i = .int .i64 (k : Int) ∧ Below w.heap.size w wr) (fun i _ => n - (intOf i).toNat)
  case atStart => exact ⟨0, by omega, rfl, Below.refl _ _⟩
  case round =>
    obtain ⟨k, hk, rfl, hb⟩ := hrel
    by_cases hlt : k < n
    · obtain ⟨b, o, rfl, hbw, hcc⟩ := (hc.row.below hb).here hlt
      have e0 := hcc k hlt 0 (by omega)
      have e1 := hcc k hlt 1 (by omega)
      have e2 := hcc k hlt 2 (by omega)
      have e3 := hcc k hlt 3 (by omega)
      rw [Nat.add_zero] at e0
      have b1 := hc.all k 1
      have b2 := hc.all k 2
      have b3 := hc.all k 3
      have hi1 : (k : Int) < (n : Int) := by omega
      clear hcc hc
      generalize A k 0 = x0 at *
      generalize A k 1 = x1 at *
      generalize A k 2 = x2 at *
      generalize A k 3 = x3 at *
      go_wp2_with fail
      have hst := step_any none x0 x1 x2 x3 ([], 1) (boxW wr x0 x1 x2 x3) (.inl ⟨rfl, rfl⟩) (by simp) b1.1 b1.2 b2.1 b2.2 b3.1 b3.2
      rw [none_step] at hst
      refine hst.mono ?_
      rintro e w2 ⟨⟨a2, c2, rfl, _, _⟩, _, hg2⟩
      have hbx := box_below wr x0 x1 x2 x3
      have hb2 : Below w.heap.size w w2 := (hb.trans (hbx.mono hb.size)).grown hg2 (Nat.le_trans hb.size hbx.size) (fun j e => by cases e)
      have hc0 : w2.cell? ⟨wr.heap.size, 0, none⟩ = some (.int .i64 x0) := by
        have hblk : w2.heap[wr.heap.size]? = (boxW wr x0 x1 x2 x3).heap[wr.heap.size]? := hg2.block _ (by simp [boxW]) (by simp)
        rw [World.cell?_of_block (w := boxW wr x0 x1 x2 x3) hblk, cell_of_row _ _ _ _ _ _ (heap_alloc_new wr _)]; rfl
      clear hst hbx hg2 e0 e1 e2 e3 hb
      by_cases h8 : x0 = 8
      · subst h8
        go_wp2_with fail
        go_roundw
        case rel => exact ⟨k + 1, by omega, by go_num, hb2⟩
        case measure => simp [intOf]; omega
      · by_cases h9 : x0 = 9
        · subst h9
          go_wp2_with fail
          go_roundw
          case rel => exact ⟨k + 1, by omega, by go_num, hb2⟩
          case measure => simp [intOf]; omega
        · have d8 : (x0 == 8) = false := by simpa using h8
          have d9 : (x0 == 9) = false := by simpa using h9
          have hif : (if x0 = 8 ∨ x0 = 9 then 1 else 0 : Nat) = 0 := if_neg (by omega)
          go_wp2_with fail
          go_roundw
          case rel => exact ⟨k + 1, by omega, by go_num, hb2⟩
          case measure => simp [intOf]; omega
    · have hd : decide ((k : Int) < (n : Int)) = false := by simp; omega
      clear hc
      go_wp2_with (first | (go_at_call 26; refine (fault_nil _).mono ?_; rintro e w' ⟨rfl, hq⟩; have hq2 := hq.symm; subst hq2; clear hq) | (go_at_call 29; refine (end_nil _).mono ?_; rintro e w' ⟨rfl, hq⟩; have hq2 := hq.symm; subst hq2; clear hq) | (go_at_call 27; refine (left_nil _).mono ?_; rintro e w' ⟨rfl, hq⟩; have hq2 := hq.symm; subst hq2; clear hq) | (go_at_call 23; refine (fixed_all _).mono ?_; rintro e w9 ⟨rfl, hb9⟩))
      go_ret
      exact ⟨rfl, hb.trans (hb9.mono hb.size)⟩
end Go.Proofs.Ytfhinodieghklaa.codecNone
