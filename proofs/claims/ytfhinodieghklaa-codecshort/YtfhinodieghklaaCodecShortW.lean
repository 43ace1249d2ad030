/- The law on PutInt, walked. -/
import Derived.Test.YtfhinodieghklaaBy4
import Derived.Test.YtfhinodieghklaaOpen8
namespace Go.Proofs.Ytfhinodieghklaa.codecShort
open Go.RowKit

set_option maxRecDepth 100000 in
set_option maxHeartbeats 1000000 in
theorem walk (a : Option Addr) (cap : Nat) (zs : List Nat) (n : Int) (h1 : -9223372036854775808 ≤ n) (h2 : n ≤ 9223372036854775807) (w : World) (hc : Came8 w a cap zs) :
    Calls Try.prog 4 #[.slice a zs.length cap, .int .i64 n] w fun e w' => e = .returned (.bool true) ∧ Below w.heap.size w w' := by
  have hl : zs.length + 10 ≤ 140737488355328 := by have := hc.size; omega
  have h10 := shortL_ten (foldI_64 h1 h2)
  have hmx : (zs ++ shortL (foldI n)).length ≤ maxLen := by rw [List.length_append]; unfold maxLen; omega
  obtain ⟨L, hL⟩ : ∃ L, L = zs ++ shortL (foldI n) := ⟨_, rfl⟩
  rw [← hL] at hmx
  have HL := hide_it hL
  clear hL h10
  have hb0 : Below w.heap.size w (w.alloc (.cells #[] 5)) := (Below.refl _ _).alloc (Nat.le_refl _) _
  have hr0 := hc.row.below hb0
  have hnil := hc.none
  go_enter Try.func4, Try.ntmps4
  go_wp2_with (at_builtin; refine wpList_append_row _ rfl _ _ rfl w.heap.size _ [] rfl (own_empty w) a cap zs rfl hr0 hnil (by simp; omega) hb0.size ?_; intro vc w0 hown0 hg0 hat0)
  have hbw0 : Below w.heap.size w w0 := hb0.grown hg0 hb0.size (fun j e => by cases e; exact Nat.le_refl _)
  obtain ⟨c, cc, hvc, hrc0, _, _, hcnil⟩ := hown0.row
  rw [List.nil_append] at hvc hrc0 hcnil
  subst hvc
  have hra0 := hc.row.below hbw0
  clear hown0 hg0 hat0 hb0 hr0 hc
  go_wp2_with fail
  refine (putInt_any a cap n zs _ h1 h2 hra0 hl hnil).mono ?_
  rintro e w1 ⟨⟨r1, rfl, ho1⟩, hb1⟩
  rw [← HL.out] at ho1
  have hbw1 := hbw0.trans (hb1.mono hbw0.size)
  have hrc1 := hrc0.below hb1
  obtain ⟨p1, q1, hv1, hp1, _, _, _⟩ := ho1.row
  subst hv1
  clear ho1 hb1 hra0 hrc0 hbw0
  go_wp2_with fail
  refine (rputInt_any c cc n zs _ h1 h2 hrc1 hl hcnil).mono ?_
  rintro e w2 ⟨⟨r2, rfl, ho2⟩, hb2⟩
  rw [← HL.out] at ho2
  have hbw2 := hbw1.trans (hb2.mono hbw1.size)
  have hp2 := hp1.below hb2
  obtain ⟨p3, q3, hv3, hp3, _, _, _⟩ := ho2.row
  subst hv3
  clear ho2 hb2 hrc1 hbw1 hp1
  have heq := equal_any p1 p3 q1 q3 _ _ _ hp2 hp3 hmx hmx
  have hd : decide (L = L) = true := decide_eq_true rfl
  rw [hd] at heq
  clear hp2 hp3 hd
  go_wp2_with fail
  refine heq.mono ?_
  rintro e w3 ⟨rfl, q, rfl⟩
  clear heq
  go_wp2_with fail
  go_ret
  exact ⟨rfl, below_drewN hbw2 q⟩
end Go.Proofs.Ytfhinodieghklaa.codecShort
