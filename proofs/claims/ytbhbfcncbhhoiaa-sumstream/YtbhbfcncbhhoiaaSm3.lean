/- What the laws of the sum begin with: one answer that the document fixes; bytes copied. -/
import Derived.Test.YtbhbfcncbhhoiaaSm2
import Derived.Lib.SlBytesConst
namespace Go.Proofs.Ytbhbfcncbhhoiaa
open Go.RowKit

theorem digits_sum : moreN 0 [49, 50, 51, 52, 53, 54, 55, 56, 57] = 3421780262 := by decide +kernel

set_option maxRecDepth 100000 in
set_option maxHeartbeats 400000 in
theorem head_any (w : World) : Calls Try.prog 11 #[] w fun e w' => e = .returned (.bool true) ∧ Below w.heap.size w w' := by
  have kc := Lib.run_convert_bytes_const (P := Try.prog) w 22 5 #[.int .u8 49, .int .u8 50, .int .u8 51, .int .u8 52, .int .u8 53, .int .u8 54, .int .u8 55, .int .u8 56, .int .u8 57] 9 9 Try.underlying22 Try.underlying5
  have hb1 : Below w.heap.size w (w.alloc (.cells #[.int .u8 49, .int .u8 50, .int .u8 51, .int .u8 52, .int .u8 53, .int .u8 54, .int .u8 55, .int .u8 56, .int .u8 57] 5 (9, 10))) := (Below.refl _ _).alloc (Nat.le_refl _) _
  have hr : RowB (w.alloc (.cells #[.int .u8 49, .int .u8 50, .int .u8 51, .int .u8 52, .int .u8 53, .int .u8 54, .int .u8 55, .int .u8 56, .int .u8 57] 5 (9, 10))) (some ⟨w.heap.size, 0, none⟩) [49, 50, 51, 52, 53, 54, 55, 56, 57] := by
    refine .inr ⟨_, _, rfl, by simp, fun i hi => ?_⟩
    rw [World.cell?_alloc_mark]
    have : i < 9 := hi
    match i, this with
    | 0, _ => rfl
    | 1, _ => rfl
    | 2, _ => rfl
    | 3, _ => rfl
    | 4, _ => rfl
    | 5, _ => rfl
    | 6, _ => rfl
    | 7, _ => rfl
    | 8, _ => rfl
  have h8 : All8 [49, 50, 51, 52, 53, 54, 55, 56, 57] := by unfold All8; decide
  have hc := of_any (some ⟨w.heap.size, 0, none⟩) 9 _ _ hr h8 (by simp [maxLen])
  rw [digits_sum] at hc
  have hs1 := hb1.size
  go_enter Try.func11, Try.ntmps11
  go_wp2_with (go_at_call 12; refine hc.mono ?_; rintro e w1 ⟨rfl, hb⟩)
  go_ret
  exact ⟨rfl, hb1.trans (hb.mono hb1.size)⟩

set_option maxRecDepth 100000 in
set_option maxHeartbeats 400000 in
theorem copied_any (a : Option Addr) (cap : Nat) (zs : List Nat) (w : World) (hr : RowB w a zs) (hl : zs.length ≤ 140737488355328) (hnil : a = none → zs.length = 0 ∧ cap = 0) :
    Calls Try.prog 10 #[.slice a zs.length cap] w fun e w' => (∃ r, e = .returned r ∧ OwnB w' w.heap.size r zs) ∧ Below w.heap.size w w' := by
  have hb0 : Below w.heap.size w (w.alloc (.cells #[] 5)) := (Below.refl _ _).alloc (Nat.le_refl _) _
  have hr0 := hr.below hb0
  clear hr
  go_enter Try.func10, Try.ntmps10
  go_wp2_with (at_builtin; refine wpList_append_row _ rfl _ _ rfl w.heap.size _ [] rfl (own_empty w) a cap zs rfl hr0 hnil (by simp; omega) hb0.size ?_; intro v1 w1 hown1 hg1 hat1)
  have hb1 : Below w.heap.size w w1 := hb0.grown hg1 hb0.size (fun j e => by cases e; exact Nat.le_refl _)
  go_ret
  exact ⟨⟨_, rfl, hown1⟩, hb1⟩

end Go.Proofs.Ytbhbfcncbhhoiaa
