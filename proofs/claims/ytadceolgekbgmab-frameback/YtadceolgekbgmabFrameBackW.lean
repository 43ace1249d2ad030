/- The law 'there and back', walked. -/
import Derived.Test.YtadceolgekbgmabFh1
import Derived.Test.YtadceolgekbgmabFs1
import Derived.Test.YtadceolgekbgmabOpenB
namespace Go.Proofs.Ytadceolgekbgmab.frameBack
open Go.RowKit

set_option maxRecDepth 100000 in
set_option maxHeartbeats 2000000 in
theorem walk (a : Option Addr) (cap : Nat) (zs : List Nat) (at' : Option Addr) (ct : Nat) (ts : List Nat) (w : World) (hc : Came8 w a cap zs) (hct : Came8 w at' ct ts) :
    Calls Try.prog 3 #[.slice a zs.length cap, .slice at' ts.length ct] w fun e w' => e = .returned (.bool true) ∧ Below w.heap.size w w' := by
  have hl : zs.length ≤ 140737488355328 := by have := hc.size; omega
  have hlt : ts.length ≤ 140737488351232 := hct.size
  have hnil := hc.none
  have h8 := hc.all
  have hr := hc.row
  have ht8 := hct.all
  have htr := hct.row
  have htn := hct.none
  have hh := head_any w
  clear hc hct
  by_cases hlarge : 65536 < zs.length
  · go_enter Try.func3, Try.ntmps3
    go_wp2_with (go_at_call 9; refine hh.mono ?_; rintro e w1 ⟨rfl, hb⟩)
    go_ret
    exact ⟨rfl, hb⟩
  · have hsmall : zs.length ≤ 65536 := by omega
    have hsm' : ¬ (65536 : Int) < (zs.length : Int) := by omega
    go_enter Try.func3, Try.ntmps3
    go_wp2_with (go_at_call 9; refine hh.mono ?_; rintro e w1 ⟨rfl, hb1⟩)
    have hcp := copied_any a cap zs w1 (hr.below hb1) hl hnil
    have hz1 := hb1.size
    refine hcp.mono ?_
    rintro e w2 ⟨⟨r2, rfl, ho2⟩, hb2⟩
    obtain ⟨p2, q2, hv2, hp2, _, _, hn2⟩ := ho2.row
    subst hv2
    have hmk := make_ok p2 q2 zs w2 hp2 h8 hsmall hn2
    have hbw2 := hb1.trans (hb2.mono hz1)
    have hz2 := hbw2.size
    clear ho2 hcp hp2 hh
    go_wp2_with fail
    refine hmk.mono ?_
    rintro e w3 ⟨⟨v3, rfl, ho3⟩, hb3⟩
    have hbw3 := hbw2.trans (hb3.mono hz2)
    have hz3 := hbw3.size
    obtain ⟨p3, q3, hv3, hp3, _, _, hn3⟩ := ho3.row
    subst hv3
    have hFl : (frm zs).length ≤ 65545 := by rw [frm_len]; omega
    have hF9 := hide_it (frm_len zs)
    have hF8 := frm_all h8
    have hrd := hide_it (rdF_back h8 hsmall ts)
    have hpy := hide_it (pay_back zs ts)
    have hcp := copied_any p3 q3 (frm zs) w3 hp3 (by omega) hn3
    generalize frm zs = F at *
    clear ho3 hmk hp3
    go_wp2_with fail
    refine hcp.mono ?_
    rintro e w4 ⟨⟨r4, rfl, ho4⟩, hb4⟩
    have hbw4 := hbw3.trans (hb4.mono hz3)
    have hz4 := hbw4.size
    have htr4 := htr.below hbw4
    have ho4' : OwB w4 w.heap.size r4 F := (OwnS.of_row ho4).mono hz3
    clear hcp ho4
    go_wp2_with (at_builtin; refine wpList_appendB _ rfl _ _ rfl w.heap.size _ _ rfl ho4' at' ct ts rfl htr4 htn (by omega) hz4 ?_; intro v5 w5 ho5 hg5 hat5)
    have hbw5 : Below w.heap.size w w5 := hbw4.grown hg5 hz4 (fun j e => (ho4'.inside j e).1)
    have hz5 := hbw5.size
    obtain ⟨p5, q5, hv5, hp5, hl5, hm5, hn5⟩ := ho5.row
    subst hv5
    have hread := read_any p5 q5 (F ++ ts) w5 hp5 (hF8.append ht8) hl5 hm5 hn5
    rw [hrd.out] at hread
    generalize F ++ ts = B at *
    clear ho5 hg5 hat5 hp5 ho4' hrd
    refine hread.mono ?_
    rintro e w6 ⟨⟨v6, he6, ho6⟩, hb6⟩
    rw [← hF9.out] at he6
    subst he6
    rw [hpy.out] at ho6
    have hbw6 := hbw5.trans (hb6.mono hz5)
    obtain ⟨p6, q6, hv6, hp6, _, _, hn6⟩ := ho6.row
    subst hv6
    have hsm := same_any p6 a q6 cap zs zs w6 hp6 (hr.below hbw6) h8 h8 hn6 hnil
    clear hread ho6 hp6 hr
    go_wp2_with (go_at_call 13; refine hsm.mono ?_; rintro e w7 ⟨rfl, rfl⟩)
    go_ret
    exact ⟨by simp, hbw6⟩
end Go.Proofs.Ytadceolgekbgmab.frameBack
