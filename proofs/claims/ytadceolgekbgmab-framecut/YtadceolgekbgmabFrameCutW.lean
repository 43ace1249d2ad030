/- The law 'each shorter beginning is cut', walked. -/
import Derived.Test.YtadceolgekbgmabFh1
import Derived.Test.YtadceolgekbgmabOpenB
namespace Go.Proofs.Ytadceolgekbgmab.frameCut
open Go.RowKit

set_option maxRecDepth 100000 in
set_option maxHeartbeats 2000000 in
theorem walk (a : Option Addr) (cap : Nat) (zs : List Nat) (k : Int) (hk : -9223372036854775808 ≤ k ∧ k ≤ 9223372036854775807) (w : World) (hc : Came8 w a cap zs) :
    Calls Try.prog 5 #[.slice a zs.length cap, .int .i64 k] w fun e w' => e = .returned (.bool true) ∧ Below w.heap.size w w' := by
  obtain ⟨hk1, hk2⟩ := hk
  have hl : zs.length ≤ 140737488355328 := by have := hc.size; omega
  have hnil := hc.none
  have h8 := hc.all
  have hr := hc.row
  have hh := head_any w
  clear hc
  by_cases hlarge : 65536 < zs.length
  · have hlg : (65536 : Int) < (zs.length : Int) := by omega
    go_enter Try.func5, Try.ntmps5
    go_wp2_with (go_at_call 9; refine hh.mono ?_; rintro e w1 ⟨rfl, hb1⟩)
    have hcp := copied_any a cap zs w1 (hr.below hb1) hl hnil
    have hz1 := hb1.size
    refine hcp.mono ?_
    rintro e w2 ⟨⟨r2, rfl, ho2⟩, hb2⟩
    obtain ⟨p2, q2, hv2, hp2, _, _, hn2⟩ := ho2.row
    subst hv2
    have hmk := make_large p2 zs.length q2 w2 hlarge (by unfold maxLen; omega)
    have hbw2 := hb1.trans (hb2.mono hz1)
    clear ho2 hcp hp2 hh
    go_wp2_with fail
    refine hmk.mono ?_
    rintro e w3 ⟨rfl, rfl⟩
    clear hmk
    go_wp2_with fail
    go_ret
    exact ⟨by simp , hbw2⟩
  · have hsmall : zs.length ≤ 65536 := by omega
    go_enter Try.func5, Try.ntmps5
    go_wp2_with (go_at_call 9; refine hh.mono ?_; rintro e w1 ⟨rfl, hb1⟩)
    have hcp := copied_any a cap zs w1 (hr.below hb1) hl hnil
    have hz1 := hb1.size
    refine hcp.mono ?_
    rintro e w2 ⟨⟨r2, rfl, ho2⟩, hb2⟩
    obtain ⟨p2, q2, hv2, hp2, _, _, hn2⟩ := ho2.row
    subst hv2
    have hmk := make_ok p2 q2 zs w2 hp2 h8 hsmall hn2
    have hbw2 := hb1.trans (hb2.mono hz1)
    have hz2 := hbw2.size
    clear ho2 hcp hp2 hh
    go_wp2_with fail
    refine hmk.mono ?_
    rintro e w3 ⟨⟨v3, rfl, ho3⟩, hb3⟩
    have hbw3 := hbw2.trans (hb3.mono hz2)
    have hz3 := hbw3.size
    obtain ⟨p3, q3, hv3, hp3, hl3, hm3, hn3⟩ := ho3.row
    subst hv3
    have hF9 := hide_it (frm_len zs)
    have hF8 := frm_all h8
    have hcut := hide_it (fun m (hm : m < zs.length + 9) => rdF_cut (p := zs) hsmall hm)
    have hFl : (frm zs).length ≤ 65545 := by rw [frm_len]; omega
    generalize frm zs = F at *
    unfold maxLen at hm3
    clear ho3 hmk hr
    by_cases hout : k < 0 ∨ (F.length : Int) ≤ k
    · by_cases hk0 : k < 0
      · go_wp2_with fail
        go_ret
        exact ⟨rfl, hbw3⟩
      · have hkF : (F.length : Int) ≤ k := by omega
        go_wp2_with fail
        go_ret
        exact ⟨rfl, hbw3⟩
    · obtain ⟨m, rfl⟩ : ∃ m : Nat, k = (m : Int) := ⟨k.toNat, by omega⟩
      have hmF : m < F.length := by omega
      have hmF' : ¬ (F.length : Int) ≤ (m : Int) := by omega
      have hTl : (F.take m).length = m := by simp; omega
      have hread := read_any p3 q3 (F.take m) w3 ((RowLt.of_row hp3).take m).row (hF8.take m) (by omega) (by unfold maxLen; omega) (fun e => by have := hn3 e; omega)
      rw [hcut.out m (by have := hF9.out; omega), hTl] at hread
      clear hp3 hcut hTl hout
      go_wp2_with fail
      refine hread.mono ?_
      rintro e w4 ⟨he, hb4⟩
      have he' : e = .returned (.tuple #[.slice none 0 0, .int .i64 0, .int .i64 ((20 : Nat) : Int)]) := he
      subst he'
      clear he hread
      go_wp2_with fail
      go_ret
      exact ⟨rfl, hbw3.trans (hb4.mono hz3)⟩
end Go.Proofs.Ytadceolgekbgmab.frameCut
