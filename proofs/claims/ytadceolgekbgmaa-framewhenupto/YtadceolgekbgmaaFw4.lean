/- What bytes begin with, walked: the document's Number and Read. -/
import Derived.Test.YtadceolgekbgmaaFw3
namespace Go.Proofs.Ytadceolgekbgmaa
open Go.RowKit

set_option maxRecDepth 100000 in
set_option maxHeartbeats 400000 in
theorem number_any (a : Option Addr) (cap : Nat) (q : List Nat) (w : World) (hr : RowB w a q) (h8 : All8 q) (h4 : q.length = 4) :
    Calls Try.prog 22 #[.slice a 4 cap] w fun e w' => e = .returned (.int .i64 ((beVal q : Nat) : Int)) ∧ w' = w := by
  obtain ⟨b, o, rfl, _, hcc⟩ := hr.here (i := 0) (by omega)
  have H4 := hide_it h4
  clear hr h4
  go_enter Try.func22, Try.ntmps22
  go_wp2
  go_loop [3, 4] (fun v i => ∃ k : Nat, k ≤ 4 ∧ i = .int .i64 (k : Int) ∧ v = .int .i64 ((beVal (q.take k) : Nat) : Int)) (fun _ i => 4 - (intOf i).toNat)
  case atStart => exact ⟨0, by omega, rfl, by simp [beVal]⟩
  case round =>
    obtain ⟨k, hk, rfl, rfl⟩ := hrel
    by_cases hlt : k < 4
    · have hd : decide ((k : Int) < 4) = true := by simp; omega
      have hck := hcc k (by rw [H4.out]; exact hlt)
      have hx8 := h8.at k
      have hvl := beVal_lt h8 k (by rw [H4.out]; omega)
      have hp : 256 ^ k ≤ 256 ^ 3 := Nat.pow_le_pow_right (by decide) (by omega)
      have hv7 : beVal (q.take k) < 16777216 := Nat.lt_of_lt_of_le hvl hp
      have HS := hide_it (show beVal (q.take (k + 1)) = beVal (q.take k) * 256 + at0 q k by rw [take_snoc (by rw [H4.out]; exact hlt), beVal_snoc])
      clear hcc hvl hp
      generalize at0 q k = x at *
      generalize beVal (q.take k) = y at *
      have hi4 : (k : Int) < 4 := by omega
      go_wp2
      go_round
      case rel => exact ⟨k + 1, by omega, by go_num, by rw [HS.out]; simp⟩
      case measure => simp [intOf]; omega
    · have hk4 : k = 4 := by omega
      subst hk4
      rw [List.take_of_length_le (by rw [H4.out]; omega)]
      go_wp2
      go_ret
      exact ⟨rfl, rfl⟩

theorem rdF_sum {bs : List Nat} (h8 : All8 bs) (h0 : at0 bs 0 = 197) (hn : lnF bs ≤ 65536) (hl : lnF bs + 9 ≤ bs.length) :
    rdF bs = if bs.take (lnF bs + 9) = frm ((bs.drop 5).take (lnF bs)) then .ok (lnF bs) else .error 91 := by
  unfold rdF
  rw [if_neg (by omega), if_neg (by omega), if_neg (by omega), if_neg (by omega), if_neg (by omega)]
  by_cases h : bs.take (lnF bs + 9) = frm ((bs.drop 5).take (lnF bs))
  · rw [if_pos h, if_neg (by rw [(sum_iff h8 h0 hl).2 h]; simp)]
  · rw [if_neg h, if_pos (fun e => h ((sum_iff h8 h0 hl).1 e))]

set_option maxRecDepth 100000 in
set_option maxHeartbeats 1000000 in
theorem rread_any (a : Option Addr) (cap : Nat) (bs : List Nat) (w : World) (hr : RowB w a bs) (h8 : All8 bs) (hc : bs.length ≤ cap) (hm : cap ≤ maxLen) :
    Calls Try.prog 14 #[.slice a bs.length cap] w fun e w' => RdTo bs w.heap.size w' e (rdF bs) ∧ Below w.heap.size w w' := by
  unfold maxLen at hm
  have HB := hide_it hr
  by_cases h0 : bs.length = 0
  · have e0 : rdF bs = .error 20 := if_pos h0
    rw [e0, h0]
    go_enter Try.func14, Try.ntmps14
    go_wp2
    go_ret3
    exact ⟨rfl, Below.refl _ _⟩
  obtain ⟨b, o, rfl, hblt, hcc⟩ := hr.here (i := 0) (by omega)
  have hc0 := hcc 0 (by omega)
  rw [Nat.add_zero] at hc0
  have hl0 : ¬ (bs.length : Int) = 0 := by omega
  have hx8 := h8.at 0
  clear hr
  by_cases h1 : at0 bs 0 ≠ 197
  · have e0 : rdF bs = .error 90 := by unfold rdF; rw [if_neg h0, if_pos h1]
    rw [e0]
    have h1' : ¬ ((at0 bs 0 : Nat) : Int) = 197 := by omega
    generalize at0 bs 0 = x at *
    clear hcc h0 e0
    go_enter Try.func14, Try.ntmps14
    go_wp2
    go_ret3
    exact ⟨rfl, Below.refl _ _⟩
  have h1a : at0 bs 0 = 197 := Decidable.not_not.1 h1
  rw [h1a] at hc0
  by_cases h2 : bs.length < 5
  · have e0 : rdF bs = .error 20 := by unfold rdF; rw [if_neg h0, if_neg h1, if_pos h2]
    rw [e0]
    have h2' : (bs.length : Int) < 5 := by omega
    clear hcc h0 e0 h1 h1a
    go_enter Try.func14, Try.ntmps14
    go_wp2
    go_ret3
    exact ⟨rfl, Below.refl _ _⟩
  have h2' : ¬ (bs.length : Int) < 5 := by omega
  have hnum := number_any (some ⟨b, o + 1, none⟩) (cap - 1) ((bs.drop 1).take 4) w (HB.out.cut 1 4) ((h8.drop _).take _) (by simp; omega)
  rw [show beVal ((bs.drop 1).take 4) = lnF bs from rfl] at hnum
  have hn32 : lnF bs < 4294967296 := by
    have := beVal_bound ((h8.drop 1).take 4)
    rwa [show ((bs.drop 1).take 4).length = 4 by simp; omega] at this
  have hc1 : ¬ cap = 1 := by omega
  have h5c : 5 ≤ cap := by omega
  by_cases h3 : 65536 < lnF bs
  · have e0 : rdF bs = .error 3 := by unfold rdF; rw [if_neg h0, if_neg h1, if_neg h2, if_pos h3]
    rw [e0]
    generalize lnF bs = n at *
    clear hcc h0 e0 h1 h1a
    go_enter Try.func14, Try.ntmps14
    go_wp2_with (go_at_call 22; refine hnum.mono ?_; rintro e w1 ⟨rfl, hq⟩; have hq2 := hq.symm; subst hq2; clear hq)
    go_ret3
    exact ⟨rfl, Below.refl _ _⟩
  by_cases h4 : bs.length < lnF bs + 9
  · have e0 : rdF bs = .error 20 := by unfold rdF; rw [if_neg h0, if_neg h1, if_neg h2, if_neg h3, if_pos h4]
    rw [e0]
    generalize lnF bs = n at *
    have h4' : (bs.length : Int) < (n : Int) + 9 := by omega
    clear hcc h0 e0 h1 h1a
    go_enter Try.func14, Try.ntmps14
    go_wp2_with (go_at_call 22; refine hnum.mono ?_; rintro e w1 ⟨rfl, hq⟩; have hq2 := hq.symm; subst hq2; clear hq)
    go_ret3
    exact ⟨rfl, Below.refl _ _⟩
  have HR := hide_it (rdF_sum h8 h1a (by omega) (by omega))
  obtain ⟨R, hR⟩ : ∃ R, R = rdF bs := ⟨_, rfl⟩
  rw [← hR] at HR ⊢
  have hPyr := HB.out.cut 5 (lnF bs)
  have hPyl : ((bs.drop 5).take (lnF bs)).length = lnF bs := by simp; omega
  have hPy8 : All8 ((bs.drop 5).take (lnF bs)) := (h8.drop _).take _
  have hTl : (bs.take (lnF bs + 9)).length = lnF bs + 9 := by simp; omega
  have hTa : ∀ i, i < lnF bs + 9 → at0 (bs.take (lnF bs + 9)) i = at0 bs i := fun i hi => at0_take hi
  generalize bs.take (lnF bs + 9) = T at *
  generalize lnF bs = n at *
  obtain ⟨Py, hPy⟩ : ∃ Py, Py = (bs.drop 5).take n := ⟨_, rfl⟩
  rw [← hPy] at HR hPyr hPyl hPy8
  replace hPy := hide_it hPy
  have hc5 : ¬ cap = 5 := by omega
  have h4' : ¬ (bs.length : Int) < (n : Int) + 9 := by omega
  have hb0 : Below w.heap.size w (w.alloc (.cells #[] 5)) := (Below.refl _ _).alloc (Nat.le_refl _) _
  have hPyr0 := hPyr.below hb0
  have hs0 := hb0.size
  have hn6 : n ≤ 65536 := by omega
  have HTl := hide_it hTl
  have HPyl := hide_it hPyl
  have h59 : 5 + n ≤ cap := by omega
  have hbl : n + 9 ≤ bs.length := by omega
  have hapl : ([] : List Nat).length + Py.length ≤ 140737488355328 := by simp; omega
  have hpe : (5 + n) - 5 = Py.length := by omega
  clear hR h0 h1 h1a h2 h3 h4 hPyr hTl hPyl
  go_enter Try.func14, Try.ntmps14
  go_wp2_with (first | (go_at_call 22; refine hnum.mono ?_; rintro e w1 ⟨rfl, hq⟩; have hq2 := hq.symm; subst hq2; clear hq) | (at_builtin; refine wpList_append_row _ rfl _ _ rfl w.heap.size _ [] rfl (own_empty w) (some ⟨b, o + 5, none⟩) (cap - 5) Py (by simp [Act.eval]; omega) hPyr0 (by simp) hapl hs0 ?_; intro v1 w1 hown1 hg1 hat1))
  have hbw1 : Below w.heap.size w w1 := hb0.grown hg1 hs0 (fun j e => by cases e; exact Nat.le_refl _)
  rw [List.nil_append] at hown1
  obtain ⟨a1, c1, rfl, hr1, _, _, hn1⟩ := hown1.row
  have hfr := rframe_any a1 c1 Py w1 hr1 hPy8 (by omega) hn1
  have HFl := hide_it (frm_len Py)
  have HF8 := hide_it (frm_all hPy8)
  have hFl : (frm Py).length ≤ bs.length := by rw [frm_len]; omega
  generalize frm Py = F at *
  have hz1 := hbw1.size
  refine hfr.mono ?_
  rintro e w2 ⟨⟨v2, rfl, hown2⟩, hb2⟩
  obtain ⟨a2, c2, rfl, hr2, _, _, hn2⟩ := hown2.row
  have hbw2 := hbw1.trans (hb2.mono hz1)
  have hown12 := hown1.below hb2
  clear hfr hown1 hg1 hat1 hr1 hPyr0 hnum hown2 hb2 hc0
  go_wp2
  go_loopw [8] (fun i wr => ∃ k m : Nat, k ≤ F.length ∧ i = .int .i64 k ∧ wr = w2.drewN m ∧ Hid (∀ i, i < k → at0 bs i = at0 F i)) (fun i _ => F.length - (intOf i).toNat)
  case atStart => exact ⟨0, 0, by omega, rfl, rfl, fun i hi => by omega⟩
  case round =>
    obtain ⟨k, m, hk, rfl, hwr, hto⟩ := hrel
    have hbr : Below w.heap.size w wr := by rw [hwr]; exact below_drewN hbw2 m
    by_cases hlt : k < F.length
    · have hbl2 : Below w2.heap.size w2 wr := by rw [hwr]; exact below_drewN (Below.refl _ _) _
      obtain ⟨bb, ob, rfl, _, hcb⟩ := (hr2.below hbl2).here (i := k) hlt
      have h1 := (hbr.cell (p := ⟨b, o + k, none⟩) hblt).trans (hcc k (by omega))
      have h2 := hcb k hlt
      obtain ⟨u, hu⟩ : ∃ u, u = at0 bs k := ⟨_, rfl⟩
      obtain ⟨v, hv⟩ : ∃ v, v = at0 F k := ⟨_, rfl⟩
      have HU := hide_it hu
      have HV := hide_it hv
      have HW := hide_it hwr
      have hi1 : (k : Int) < (F.length : Int) := by omega
      have hi2 : (k : Int) < (bs.length : Int) := by omega
      rw [← hu] at h1
      rw [← hv] at h2
      clear hu hv hcb hbl2 hwr hcc
      by_cases huv : u = v
      · have hd : ((u : Int) == (v : Int)) = true := by simp; omega
        go_wp2
        go_quiet (fail)
        go_wp2
        go_roundw
        case rel =>
          refine ⟨k + 1, m + nq, by omega, by go_num, by rw [HW.out, World.drewN_drewN], fun i hi => ?_⟩
          by_cases e : i = k
          · subst e; rw [← HU.out, ← HV.out]; exact huv
          · exact hto i (by omega)
        case measure => simp [intOf]; omega
      · have hd : ((u : Int) == (v : Int)) = false := by simp; omega
        have hne : ¬ T = F := fun e => huv (by rw [HU.out, HV.out, ← e, hTa k (by have := HFl.out; have := HPyl.out; omega)])
        have HR2 := hide_it (HR.out.trans (if_neg hne))
        go_wp2
        go_quiet (fail)
        go_wp2
        go_ret3
        rw [HR2.out]
        exact ⟨rfl, below_drewN hbr nq⟩
    · have heq : T = F := eq_of_at (by rw [HTl.out, HFl.out, HPyl.out]) (fun i hi => by
        rw [HTl.out] at hi
        rw [hTa i hi]
        exact hto i (by have := HFl.out; have := HPyl.out; omega))
      have HR2 := hide_it (HR.out.trans (if_pos heq))
      have hown3 : OwnB wr w.heap.size (.slice a1 Py.length c1) Py := by
        refine hown12.below ?_
        rw [hwr]; exact below_drewN (Below.refl _ _) m
      clear hcc hwr
      go_wp2
      go_ret3
      rw [HR2.out]
      refine ⟨⟨.slice a1 Py.length c1, by simp, ?_⟩, hbr⟩
      rw [← hPy.out]
      exact hown3

end Go.Proofs.Ytadceolgekbgmaa
