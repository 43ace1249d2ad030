/- The law on More, walked. -/
import Derived.Test.YtbhbfcncbhhoiaaSm3
import Derived.Test.YtbhbfcncbhhoiaaOpenB
namespace Go.Proofs.Ytbhbfcncbhhoiaa.sumMore
open Go.RowKit

set_option maxRecDepth 100000 in
set_option maxHeartbeats 2000000 in
theorem walk (s : Nat) (hs : s < 4294967296) (a : Option Addr) (cap : Nat) (zs : List Nat) (w : World) (hc : Came8 w a cap zs) :
    Calls Try.prog 4 #[.int .u32 (s : Int), .slice a zs.length cap] w fun e w' => e = .returned (.bool true) ∧ Below w.heap.size w w' := by
  have hl : zs.length ≤ 140737488355328 := by have := hc.size; omega
  have hmx : zs.length ≤ maxLen := by unfold maxLen; omega
  have hnil := hc.none
  have h8 := hc.all
  have hr := hc.row
  have hcp := copied_any a cap zs w hr hl hnil
  clear hc
  obtain ⟨S, hS⟩ : ∃ S, S = moreN s zs := ⟨_, rfl⟩
  have hd : ((S : Int) == (S : Int)) = true := by simp
  have HS := hide_it hS
  clear hS
  go_enter Try.func4, Try.ntmps4
  go_wp2_with fail
  refine hcp.mono ?_
  rintro e w1 ⟨⟨r1, rfl, ho1⟩, hb1⟩
  obtain ⟨p1, q1, hv1, hp1, _, _, _⟩ := ho1.row
  subst hv1
  have hof := rmore_any s hs p1 q1 zs w1 hp1 h8 hmx
  rw [← HS.out] at hof
  have hr1 := hr.below hb1
  clear ho1 hcp hr hp1
  go_wp2_with fail
  refine hof.mono ?_
  rintro e w2 ⟨rfl, rfl⟩
  clear hof
  go_wp2_with fail
  refine (head_any _).mono ?_
  rintro e w3 ⟨rfl, hb3⟩
  have hr3 := hr1.below hb3
  have hbw3 := hb1.trans (hb3.mono hb1.size)
  clear hr1 hb1 hb3
  go_wp2_with fail
  refine (copied_any a cap zs w3 hr3 hl hnil).mono ?_
  rintro e w4 ⟨⟨r4, rfl, ho4⟩, hb4⟩
  obtain ⟨p4, q4, hv4, hp4, _, _, _⟩ := ho4.row
  subst hv4
  have hof := more_any s hs p4 q4 zs w4 hp4 h8 hmx
  rw [← HS.out] at hof
  have hbw4 := hbw3.trans (hb4.mono hbw3.size)
  clear ho4 hr3 hp4 hbw3 hb4
  go_wp2_with fail
  refine hof.mono ?_
  rintro e w5 ⟨rfl, hb5⟩
  have hbw5 := hbw4.trans (hb5.mono hbw4.size)
  clear hof hbw4 hb5
  go_wp2_with fail
  go_ret
  exact ⟨rfl, hbw5⟩
end Go.Proofs.Ytbhbfcncbhhoiaa.sumMore
