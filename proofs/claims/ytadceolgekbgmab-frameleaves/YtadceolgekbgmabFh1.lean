/- What the laws of frames begin with: one answer that the document fixes; bytes copied, bytes compared. -/
import Derived.Test.YtadceolgekbgmabFw3
namespace Go.Proofs.Ytadceolgekbgmab
open Go.RowKit

set_option maxRecDepth 100000 in
set_option maxHeartbeats 400000 in
theorem copied_any (a : Option Addr) (cap : Nat) (zs : List Nat) (w : World) (hr : RowB w a zs) (hl : zs.length ≤ 140737488355328) (hnil : a = none → zs.length = 0 ∧ cap = 0) :
    Calls Try.prog 11 #[.slice a zs.length cap] w fun e w' => (∃ r, e = .returned r ∧ OwnB w' w.heap.size r zs) ∧ Below w.heap.size w w' := by
  have hb0 : Below w.heap.size w (w.alloc (.cells #[] 5)) := (Below.refl _ _).alloc (Nat.le_refl _) _
  have hr0 := hr.below hb0
  clear hr
  go_enter Try.func11, Try.ntmps11
  go_wp2_with (at_builtin; refine wpList_append_row _ rfl _ _ rfl w.heap.size _ [] rfl (own_empty w) a cap zs rfl hr0 hnil (by simp; omega) hb0.size ?_; intro v1 w1 hown1 hg1 hat1)
  have hb1 : Below w.heap.size w w1 := hb0.grown hg1 hb0.size (fun j e => by cases e; exact Nat.le_refl _)
  go_ret
  exact ⟨⟨_, rfl, hown1⟩, hb1⟩

set_option maxRecDepth 100000 in
set_option maxHeartbeats 400000 in
theorem same_any (a b : Option Addr) (ca cb : Nat) (xs ys : List Nat) (w : World) (ha : RowB w a xs) (hb : RowB w b ys) (hx : All8 xs) (hy : All8 ys) (hna : a = none → xs.length = 0 ∧ ca = 0) (hnb : b = none → ys.length = 0 ∧ cb = 0) :
    Calls Try.prog 13 #[.slice a xs.length ca, .slice b ys.length cb] w fun e w' => e = .returned (.bool (decide (xs = ys))) ∧ w' = w := by
  have c1 := conv_row ha hna
  have c2 := conv_row hb hnb
  have hd : ((strOf xs).toList == (strOf ys).toList) = decide (xs = ys) := by
    by_cases e : xs = ys
    · rw [e]; simp
    · simp only [e, decide_false, beq_eq_false_iff_ne]
      intro h
      rw [Lib.toList_data, Lib.toList_data] at h
      exact e (by rw [← strNat_strOf hx, ← strNat_strOf hy]; unfold strNat; rw [h])
  have HD := hide_it hd
  clear ha hb hna hnb hx hy hd
  go_enter Try.func13, Try.ntmps13
  go_wp2
  go_ret
  exact ⟨congrArg (fun b => Ending.returned (Value.bool b)) HD.out, rfl⟩

theorem empty_frame : frm [] = [197, 0, 0, 0, 0, 231, 215, 144, 182] := by decide +kernel

set_option maxRecDepth 100000 in
set_option maxHeartbeats 400000 in
theorem head_any (w : World) : Calls Try.prog 9 #[] w fun e w' => e = .returned (.bool true) ∧ Below w.heap.size w w' := by
  have hb0 : Below w.heap.size w (w.alloc (.cells #[] 5)) := (Below.refl _ _).alloc (Nat.le_refl _) _
  have hmk := make_ok (some ⟨w.heap.size, 0, none⟩) 0 [] (w.alloc (.cells #[] 5)) (.inl rfl) (fun z hz => by cases hz) (by simp) (by simp)
  have hs0 := hb0.size
  go_enter Try.func9, Try.ntmps9
  go_wp2_with (go_at_call 10; refine hmk.mono ?_)
  rintro e w1 ⟨⟨v, rfl, hown⟩, hb1⟩
  rw [empty_frame] at hown
  obtain ⟨a, c, rfl, hr, _, _, hn⟩ := hown.row
  have hbw1 := hb0.trans (hb1.mono hs0)
  have hz1 := hbw1.size
  have hb2 : Below w1.heap.size w1 (w1.alloc (.cells (([197, 0, 0, 0, 0, 231, 215, 144, 182].map encB)).toArray 5)) := (Below.refl _ _).alloc (Nat.le_refl _) _
  have h8 : All8 [197, 0, 0, 0, 0, 231, 215, 144, 182] := by unfold All8; decide
  have hsm := same_any a (some ⟨w1.heap.size, 0, none⟩) c 9 _ _ _ (hr.below hb2) (row_lit w1 [197, 0, 0, 0, 0, 231, 215, 144, 182]) h8 h8 hn (by simp)
  have hbw2 := hbw1.trans (hb2.mono hz1)
  clear hmk hown hr
  go_wp2_with (go_at_call 13; refine hsm.mono ?_; rintro e w2 ⟨rfl, hq⟩; have hq2 := hq.symm; subst hq2; clear hq)
  go_ret
  exact ⟨by simp, hbw2⟩

end Go.Proofs.Ytadceolgekbgmab
