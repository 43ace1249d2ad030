/- The law 'one form', walked. -/
import Derived.Test.YtadceolgekbgmabFh1
import Derived.Test.YtadceolgekbgmabOpenB
namespace Go.Proofs.Ytadceolgekbgmab.frameForm
open Go.RowKit

set_option maxRecDepth 100000 in
set_option maxHeartbeats 2000000 in
theorem walk (a : Option Addr) (cap : Nat) (zs : List Nat) (w : World) (hc : Came8 w a cap zs) :
    Calls Try.prog 4 #[.slice a zs.length cap] w fun e w' => e = .returned (.bool true) ∧ Below w.heap.size w w' := by
  have hl : zs.length ≤ 140737488355328 := by have := hc.size; omega
  have hnil := hc.none
  have h8 := hc.all
  have hr := hc.row
  have hfit := hc.fits
  have hcm := hc.capm
  unfold maxLen at hcm
  have hh := head_any w
  clear hc
  go_enter Try.func4, Try.ntmps4
  go_wp2_with (go_at_call 9; refine hh.mono ?_; rintro e w1 ⟨rfl, hb1⟩)
  have hcp := copied_any a cap zs w1 (hr.below hb1) hl hnil
  have hz1 := hb1.size
  refine hcp.mono ?_
  rintro e w2 ⟨⟨r2, rfl, ho2⟩, hb2⟩
  obtain ⟨p2, q2, hv2, hp2, hl2, hm2, hn2⟩ := ho2.row
  subst hv2
  have hread := read_any p2 q2 zs w2 hp2 h8 hl2 hm2 hn2
  have hbw2 := hb1.trans (hb2.mono hz1)
  have hz2 := hbw2.size
  clear ho2 hcp hp2 hh
  cases hR : rdF zs with
  | error c =>
    have hc0 : ¬ (c : Int) = 0 := by
      have : c ≠ 0 := by
        intro e
        subst e
        unfold rdF at hR
        repeat' split at hR
        all_goals cases hR
      omega
    rw [hR] at hread
    clear hR
    go_wp2_with fail
    refine hread.mono ?_
    rintro e w3 ⟨he, hb3⟩
    have he' : e = .returned (.tuple #[.slice none 0 0, .int .i64 0, .int .i64 (c : Int)]) := he
    subst he'
    clear he hread
    go_wp2_with fail
    go_ret
    exact ⟨rfl, hbw2.trans (hb3.mono hz2)⟩
  | ok n =>
    obtain ⟨hn6, hn9, hform, hPl⟩ := rdF_form h8 hR
    rw [hR] at hread
    have hP8 : All8 ((zs.drop 5).take n) := (h8.drop _).take _
    have HPl := hide_it hPl
    have hPs : ((zs.drop 5).take n).length ≤ 65536 := by omega
    have hT8 : All8 (zs.take (n + 9)) := h8.take _
    have HTl := hide_it (show (zs.take (n + 9)).length = n + 9 by simp; omega)
    have hTr : ∀ w', Below w.heap.size w w' → RowB w' a (zs.take (n + 9)) := fun w' hb => ((RowLt.of_row (hr.below hb)).take _).row
    have hTn : a = none → (zs.take (n + 9)).length = 0 ∧ cap = 0 := fun e => by have := hnil e; simp; omega
    have HF := hide_it hform
    clear hR hPl hform
    obtain ⟨Py, hPy⟩ : ∃ Py, Py = (zs.drop 5).take n := ⟨_, rfl⟩
    rw [← hPy] at hP8 HPl hPs HF
    replace hPy := hide_it hPy
    generalize zs.take (n + 9) = T at *
    go_wp2_with fail
    refine hread.mono ?_
    rintro e w3 ⟨⟨v3, rfl, ho3⟩, hb3⟩
    rw [← hPy.out] at ho3
    have hbw3 := hbw2.trans (hb3.mono hz2)
    have hz3 := hbw3.size
    obtain ⟨p3, q3, hv3, hp3, _, _, hn3⟩ := ho3.row
    subst hv3
    have hcp := copied_any p3 q3 Py w3 hp3 (by omega) hn3
    clear ho3 hp3 hread
    go_wp2_with fail
    refine hcp.mono ?_
    rintro e w4 ⟨⟨r4, rfl, ho4⟩, hb4⟩
    have hbw4 := hbw3.trans (hb4.mono hz3)
    have hz4 := hbw4.size
    obtain ⟨p4, q4, hv4, hp4, _, _, hn4⟩ := ho4.row
    subst hv4
    have hmk := make_ok p4 q4 Py w4 hp4 hP8 hPs hn4
    rw [← HF.out] at hmk
    clear ho4 hp4 hcp
    go_wp2_with fail
    refine hmk.mono ?_
    rintro e w5 ⟨⟨v5, rfl, ho5⟩, hb5⟩
    have hbw5 := hbw4.trans (hb5.mono hz4)
    obtain ⟨p5, q5, hv5, hp5, _, _, hn5⟩ := ho5.row
    subst hv5
    have hsm := same_any p5 a q5 cap T T w5 hp5 (hTr w5 hbw5) hT8 hT8 hn5 hTn
    rw [HTl.out] at hsm
    rw [HTl.out]
    have hi9 : (n : Int) + 9 ≤ (zs.length : Int) := by omega
    clear hmk ho5 hp5 hTr hr hTn hn5
    go_wp2_with (go_at_call 13; refine hsm.mono ?_; rintro e w6 ⟨rfl, rfl⟩)
    go_ret
    exact ⟨by simp, hbw5⟩
end Go.Proofs.Ytadceolgekbgmab.frameForm
