/- The law on runs, walked. -/
import Derived.Test.YtncmnhomloanaaaHq1
namespace Go.Proofs.Ytncmnhomloanaaa.chainRuns
open Go.RowKit

set_option maxRecDepth 100000 in
set_option maxHeartbeats 4000000 in
theorem walk (a : Option Addr) (n c : Nat) (A : Nat → Stc) (w : World) (ha : CameStc w a n A) :
    Calls Try.prog 4 #[.slice a n c] w fun e w' => e = .returned (.bool true) ∧ Below w.heap.size w w' := by
  have hn := ha.size
  have hrow := ha.row
  have heach := hide_it ha.each
  clear ha
  have hS0 := own0_new w w (Below.refl _ _)
  obtain ⟨W0, hW0⟩ : ∃ W0, W0 = (w.alloc (.cells #[.slice none 0 0] 28)).alloc (.cells #[.pointer (some ⟨w.heap.size, 0, none⟩), .slice none 0 0] 31) := ⟨_, rfl⟩
  obtain ⟨q, hq⟩ : ∃ q, q = w.heap.size + 1 := ⟨_, rfl⟩
  rw [← hW0, ← hq] at hS0
  have HS0 := hide_it hS0
  clear hS0
  go_enter Try.func4, Try.ntmps4
  go_wp2_with fail
  rw [← hW0, ← hq]
  clear hW0 hq
  go_loopw [4] (fun i wr => ∃ (k : Nat) (xs : List Lk), k ≤ n ∧ i = .int .i64 (k : Int) ∧ xs.length ≤ k ∧ Hid (Own0 w wr q w.heap.size xs)) (fun i _ => n - (intOf i).toNat)
  case atStart => exact ⟨0, [], by omega, rfl, by simp, HS0⟩
  case round =>
    clear HS0
    obtain ⟨k, xs, hk, rfl, hxl, HS⟩ := hrel
    by_cases hlt : k < n
    · have hki : (k : Int) < (n : Int) := by omega
      have hw1 : IntKind.i64.wrap ((k : Int) + 1) = (k : Int) + 1 := i64_in (by omega) (by omega)
      obtain ⟨b2, o2, rfl, l2, c0, c1, c2, c3⟩ := hrow.here hlt
      have d0 := (HS.out.bel.cell (p := ⟨b2, o2 + k * 4, none⟩) l2).trans c0
      have d1 := (HS.out.bel.cell (p := ⟨b2, o2 + k * 4 + 1, none⟩) l2).trans c1
      have d2 := (HS.out.bel.cell (p := ⟨b2, o2 + k * 4 + 2, none⟩) l2).trans c2
      have d3 := (HS.out.bel.cell (p := ⟨b2, o2 + k * 4 + 3, none⟩) l2).trans c3
      have hst := HS.out.call (by omega) (A k) (heach.out k hlt).n
      have HL := hide_it (nxt_len xs (A k))
      generalize A k = s at *
      clear c0 c1 c2 c3 hrow HS
      go_wp2_with fail
      refine hst.mono ?_
      rintro e w1 ⟨rfl, hS1⟩
      have HS1 := hide_it hS1
      clear hst hS1 d0 d1 d2 d3
      go_wp2
      go_roundw
      case rel => exact ⟨k + 1, _, by omega, by go_num, by have := HL.out; omega, HS1⟩
      case measure => simp [intOf]; omega
    · have h5 := HS.out.call (by omega) ⟨5, 0, ⟨#[]⟩, false⟩ (by simp)
      rw [show nxt xs ⟨5, 0, ⟨#[]⟩, false⟩ = xs by simp [nxt]] at h5
      have hxx : xs.length ≤ 3600000000000 := by omega
      clear hrow HS
      go_wp2_with fail
      refine h5.mono ?_
      rintro e w1 ⟨rfl, hS1⟩
      have h3 := hS1.call hxx ⟨3, 0, ⟨#[]⟩, false⟩ (by simp)
      rw [show nxt xs ⟨3, 0, ⟨#[]⟩, false⟩ = xs by simp [nxt]] at h3
      clear h5 hS1
      go_wp2_with fail
      refine h3.mono ?_
      rintro e w2 ⟨rfl, hS2⟩
      have h6 := hS2.call hxx ⟨6, -1, ⟨#[]⟩, false⟩ (by simp)
      rw [show nxt xs ⟨6, -1, ⟨#[]⟩, false⟩ = xs by simp [nxt]] at h6
      clear h3 hS2
      go_wp2_with fail
      refine h6.mono ?_
      rintro e w3 ⟨rfl, hS3⟩
      have hB := hS3.bel
      have haw := awake_any w3
      clear h6 hS3
      go_wp2_with fail
      refine haw.mono ?_
      rintro e w4 ⟨rfl, hb4⟩
      have HB := hide_it (hB.trans (hb4.mono hB.size))
      clear haw hb4 hB
      go_wp2
      go_ret
      exact ⟨rfl, HB.out⟩
end Go.Proofs.Ytncmnhomloanaaa.chainRuns
