/- The law on Make, walked. -/
import Derived.Test.YtadceolgekbgmaaFh1
import Derived.Test.YtadceolgekbgmaaOpenB
namespace Go.Proofs.Ytadceolgekbgmaa.frameMake
open Go.RowKit

set_option maxRecDepth 100000 in
set_option maxHeartbeats 2000000 in
theorem any (a : Option Addr) (cap : Nat) (zs : List Nat) (w : World) (hr : RowB w a zs) (h8 : All8 zs) (hl : zs.length ≤ 140737488355328) (hnil : a = none → zs.length = 0 ∧ cap = 0) :
    Calls Try.prog 3 #[.slice a zs.length cap] w fun e w' => e = .returned (.bool true) ∧ Below w.heap.size w w' := by
  have hmx : zs.length ≤ maxLen := by unfold maxLen; omega
  have hcp := copied_any a cap zs w hr hl hnil
  by_cases hlarge : 65536 < zs.length
  · go_enter Try.func3, Try.ntmps3
    go_wp2_with fail
    refine hcp.mono ?_
    rintro e w1 ⟨⟨r1, rfl, ho1⟩, hb1⟩
    obtain ⟨p1, q1, hv1, _⟩ := ho1.row
    subst hv1
    have hmk := rmake_large p1 zs.length q1 w1 hlarge hmx
    have hcp2 := copied_any a cap zs w1 (hr.below hb1) hl hnil
    have hz1 := hb1.size
    clear ho1 hcp hr
    go_wp2_with fail
    refine hmk.mono ?_
    rintro e w2 ⟨rfl, rfl⟩
    clear hmk
    go_wp2_with fail
    refine hcp2.mono ?_
    rintro e w3 ⟨⟨r3, rfl, ho3⟩, hb3⟩
    obtain ⟨p3, q3, hv3, _⟩ := ho3.row
    subst hv3
    have hmk := make_large p3 zs.length q3 w3 hlarge hmx
    have hbw3 := hb1.trans (hb3.mono hz1)
    have hz3 := hbw3.size
    clear ho3 hcp2
    go_wp2_with fail
    refine hmk.mono ?_
    rintro e w4 ⟨rfl, rfl⟩
    clear hmk
    go_wp2_with fail
    refine (head_any _).mono ?_
    rintro e w5 ⟨rfl, hb5⟩
    have hbw5 := hbw3.trans (hb5.mono hz3)
    have hsm := same_any none none 0 0 [] [] w5 (.inl rfl) (.inl rfl) (fun z hz => by cases hz) (fun z hz => by cases hz) (fun _ => ⟨rfl, rfl⟩) (fun _ => ⟨rfl, rfl⟩)
    go_wp2_with (go_at_call 13; refine hsm.mono ?_; rintro e w6 ⟨rfl, rfl⟩)
    go_ret
    exact ⟨by simp, hbw5⟩
  · have hsmall : zs.length ≤ 65536 := by omega
    have h8F := frm_all h8
    go_enter Try.func3, Try.ntmps3
    go_wp2_with fail
    refine hcp.mono ?_
    rintro e w1 ⟨⟨r1, rfl, ho1⟩, hb1⟩
    obtain ⟨p1, q1, hv1, hp1, _, _, hn1⟩ := ho1.row
    subst hv1
    have hmk := rmake_ok p1 q1 zs w1 hp1 h8 hsmall hn1
    have hrw1 := hr.below hb1
    have hz1 := hb1.size
    clear ho1 hcp hr hp1
    go_wp2_with fail
    refine hmk.mono ?_
    rintro e w2 ⟨⟨v2, rfl, ho2⟩, hb2⟩
    have hcp2 := copied_any a cap zs w2 (hrw1.below hb2) hl hnil
    have hbw2 := hb1.trans (hb2.mono hz1)
    have hz2 := hbw2.size
    clear hmk hrw1
    go_wp2_with fail
    refine hcp2.mono ?_
    rintro e w3 ⟨⟨r3, rfl, ho3⟩, hb3⟩
    obtain ⟨p3, q3, hv3, hp3, _, _, hn3⟩ := ho3.row
    subst hv3
    have hmk := make_ok p3 q3 zs w3 hp3 h8 hsmall hn3
    have hbw3 := hbw2.trans (hb3.mono hz2)
    have hz3 := hbw3.size
    have ho2' := ho2.below hb3
    clear ho3 hcp2 hp3 ho2
    go_wp2_with fail
    refine hmk.mono ?_
    rintro e w4 ⟨⟨v4, rfl, ho4⟩, hb4⟩
    have hbw4 := hbw3.trans (hb4.mono hz3)
    have hz4 := hbw4.size
    have ho2'' := ho2'.below hb4
    clear hmk ho2'
    go_wp2_with fail
    refine (head_any _).mono ?_
    rintro e w5 ⟨rfl, hb5⟩
    have hbw5 := hbw4.trans (hb5.mono hz4)
    obtain ⟨pa, qa, hva, hpa, _, _, hna⟩ := (ho2''.below hb5).row
    obtain ⟨pb, qb, hvb, hpb, _, _, hnb⟩ := (ho4.below hb5).row
    subst hva hvb
    have hsm := same_any pb pa qb qa _ _ w5 hpb hpa h8F h8F hnb hna
    clear ho2'' ho4 hpa hpb h8F
    generalize frm zs = F at *
    go_wp2_with (go_at_call 13; refine hsm.mono ?_; rintro e w6 ⟨rfl, rfl⟩)
    go_ret
    exact ⟨by simp, hbw5⟩

theorem walk (a : Option Addr) (cap : Nat) (zs : List Nat) (w : World) (hc : Came8 w a cap zs) :
    Calls Try.prog 3 #[.slice a zs.length cap] w fun e w' => e = .returned (.bool true) ∧ Below w.heap.size w w' :=
  any a cap zs w hc.row hc.all (by have := hc.size; omega) hc.none
end Go.Proofs.Ytadceolgekbgmaa.frameMake
