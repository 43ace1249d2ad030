/- The law on Read, walked. -/
import Derived.Test.YtadceolgekbgmaaFh1
import Derived.Test.YtadceolgekbgmaaFw4
import Derived.Test.YtadceolgekbgmaaOpenB
namespace Go.Proofs.Ytadceolgekbgmaa.frameRead
open Go.RowKit

set_option maxRecDepth 100000 in
set_option maxHeartbeats 2000000 in
theorem walk (a : Option Addr) (cap : Nat) (zs : List Nat) (w : World) (hc : Came8 w a cap zs) :
    Calls Try.prog 5 #[.slice a zs.length cap] w fun e w' => e = .returned (.bool true) ∧ Below w.heap.size w w' := by
  have hl : zs.length ≤ 140737488355328 := by have := hc.size; omega
  have hnil := hc.none
  have h8 := hc.all
  have hr := hc.row
  have hcp := copied_any a cap zs w hr hl hnil
  have hP8 : ∀ n, All8 ((zs.drop 5).take n) := fun n => (h8.drop _).take _
  clear hc
  go_enter Try.func5, Try.ntmps5
  go_wp2_with fail
  refine hcp.mono ?_
  rintro e w1 ⟨⟨r1, rfl, ho1⟩, hb1⟩
  obtain ⟨p1, q1, hv1, hp1, hl1, hm1, hn1⟩ := ho1.row
  subst hv1
  have hrd := rread_any p1 q1 zs w1 hp1 h8 hl1 hm1
  have hrw1 := hr.below hb1
  have hz1 := hb1.size
  clear ho1 hcp hr hp1
  go_wp2_with fail
  refine hrd.mono ?_
  rintro e w2 ⟨hR2, hb2⟩
  have hcp2 := copied_any a cap zs w2 (hrw1.below hb2) hl hnil
  have hbw2 := hb1.trans (hb2.mono hz1)
  have hz2 := hbw2.size
  clear hrd hrw1
  have hrd3 : ∀ p3 q3 w3, RowB w3 p3 zs → zs.length ≤ q3 → q3 ≤ maxLen → (p3 = none → zs.length = 0 ∧ q3 = 0) → Calls Try.prog 15 #[.slice p3 zs.length q3] w3 fun e w' => RdTo zs w3.heap.size w' e (rdF zs) ∧ Below w3.heap.size w3 w' :=
    fun p3 q3 w3 h1 h2 h3 h4 => read_any p3 q3 zs w3 h1 h8 h2 h3 h4
  generalize rdF zs = R at *
  cases R with
  | error c =>
    have hR2' : e = .returned (.tuple #[.slice none 0 0, .int .i64 0, .int .i64 (c : Int)]) := hR2
    subst hR2'
    clear hR2
    go_wp2_with fail
    refine hcp2.mono ?_
    rintro e w3 ⟨⟨r3, rfl, ho3⟩, hb3⟩
    obtain ⟨p3, q3, hv3, hp3, hl3, hm3, hn3⟩ := ho3.row
    subst hv3
    have hrd := hrd3 p3 q3 w3 hp3 hl3 hm3 hn3
    have hbw3 := hbw2.trans (hb3.mono hz2)
    have hz3 := hbw3.size
    clear ho3 hcp2 hp3 hrd3
    go_wp2_with fail
    refine hrd.mono ?_
    rintro e w4 ⟨hR4, hb4⟩
    have hR4' : e = .returned (.tuple #[.slice none 0 0, .int .i64 0, .int .i64 (c : Int)]) := hR4
    subst hR4'
    have hbw4 := hbw3.trans (hb4.mono hz3)
    have hz4 := hbw4.size
    clear hR4 hrd
    go_wp2_with fail
    refine (head_any _).mono ?_
    rintro e w5 ⟨rfl, hb5⟩
    have hbw5 := hbw4.trans (hb5.mono hz4)
    have hsm := same_any none none 0 0 [] [] w5 (.inl rfl) (.inl rfl) (fun z hz => by cases hz) (fun z hz => by cases hz) (fun _ => ⟨rfl, rfl⟩) (fun _ => ⟨rfl, rfl⟩)
    go_wp2_with (go_at_call 13; refine hsm.mono ?_; rintro e w6 ⟨rfl, rfl⟩)
    go_ret
    exact ⟨by simp, hbw5⟩
  | ok n =>
    obtain ⟨v2, rfl, ho2⟩ := hR2
    have hPn := hP8 n
    go_wp2_with fail
    refine hcp2.mono ?_
    rintro e w3 ⟨⟨r3, rfl, ho3⟩, hb3⟩
    obtain ⟨p3, q3, hv3, hp3, hl3, hm3, hn3⟩ := ho3.row
    subst hv3
    have hrd := hrd3 p3 q3 w3 hp3 hl3 hm3 hn3
    have hbw3 := hbw2.trans (hb3.mono hz2)
    have hz3 := hbw3.size
    have ho23 := ho2.below hb3
    clear ho3 hcp2 hp3 hrd3 ho2
    go_wp2_with fail
    refine hrd.mono ?_
    rintro e w4 ⟨⟨v4, rfl, ho4⟩, hb4⟩
    have hbw4 := hbw3.trans (hb4.mono hz3)
    have hz4 := hbw4.size
    have ho24 := ho23.below hb4
    clear hrd ho23
    go_wp2_with fail
    refine (head_any _).mono ?_
    rintro e w5 ⟨rfl, hb5⟩
    have hbw5 := hbw4.trans (hb5.mono hz4)
    obtain ⟨pa, qa, hva, hpa, _, _, hna⟩ := (ho24.below hb5).row
    obtain ⟨pb, qb, hvb, hpb, _, _, hnb⟩ := (ho4.below hb5).row
    subst hva hvb
    have hsm := same_any pb pa qb qa _ _ w5 hpb hpa hPn hPn hnb hna
    clear ho24 ho4 hpa hpb hPn hP8 hna hnb
    generalize (zs.drop 5).take n = Py at *
    go_wp2_with (go_at_call 13; refine hsm.mono ?_; rintro e w6 ⟨rfl, rfl⟩)
    go_ret
    exact ⟨by simp, hbw5⟩
end Go.Proofs.Ytadceolgekbgmaa.frameRead
