/- WalJunk, walked. -/
import Derived.Test.YtkacfpmninmjkaaWx3
namespace Go.Proofs.Ytkacfpmninmjkaa.walJunk
open Go.RowKit

set_option maxRecDepth 100000 in
set_option maxHeartbeats 1600000 in
theorem walk (a0 : Option Addr) (n0 c0 : Nat) (A0 : Nat → Ent) (a1 : Option Addr) (c1 : Nat) (z1 : List Nat) (a2 : Option Addr) (n2 c2 : Nat) (A2 : Nat → Ent) (w : World)
    (s0 : CameEnt w a0 n0 A0 ∧ n0 ≤ 1048576) (s1 : Came8 w a1 c1 z1) (l1 : z1.length ≤ 1048576) (s2 : CameEnt w a2 n2 A2 ∧ n2 ≤ 1048576) :
    Calls Try.prog 3 #[.slice a0 n0 c0, .slice a1 z1.length c1, .slice a2 n2 c2] w fun e w' => e = .returned (.bool true) ∧ Below w.heap.size w w' := by
  have hnew := newD_any 1 w
  obtain ⟨xs0, hxs0⟩ : ∃ xs, xs = (List.range n0).map A0 := ⟨_, rfl⟩
  obtain ⟨xs2, hxs2⟩ : ∃ xs, xs = (List.range n2).map A2 := ⟨_, rfl⟩
  have hn0 : n0 = xs0.length := by rw [hxs0]; simp
  have hn2 : n2 = xs2.length := by rw [hxs2]; simp
  have HE0 : Hid (∀ F : Nat → Prop, (∀ b, F b → w.heap.size ≤ b) → Ets w F a0 xs0) := fun F hF => by rw [hxs0]; exact s0.1.ets hF
  have HE2 : Hid (∀ F : Nat → Prop, (∀ b, F b → w.heap.size ≤ b) → Ets w F a2 xs2) := fun F hF => by rw [hxs2]; exact s2.1.ets hF
  have hl0 := s0.2
  have hl2 := s2.2
  rw [hn0] at hl0 ⊢
  rw [hn2] at hl2 ⊢
  have HC := hide_it s1
  clear s0 s2 hxs0 hxs2 hn0 hn2 s1
  go_enter Try.func3, Try.ntmps3
  go_wp2_with fail
  refine hnew.mono ?_
  rintro e w1 (⟨n, hn, h1, hM⟩ | ⟨hno, _, _⟩)
  · obtain rfl : n = 1 := by omega
    obtain ⟨p, hep, hdp⟩ := hM.ex
    subst hep
    have hfx := walFixed_any w1
    clear hnew hn h1
    go_wp2_with fail
    refine hfx.mono ?_
    rintro e w2 ⟨rfl, hb2⟩
    clear hfx
    have hbw2 := hM.bel.trans (hb2.mono hM.bel.size)
    have hop := opened hbw2 (hdp.below hb2) (x := zeroPt) rfl (fun b hb => hb.1)
    clear hdp hM
    generalize hF0 : (fun b => w.heap.size ≤ b ∧ b < w1.heap.size) = F at hop
    have hFw : ∀ b, F b → w.heap.size ≤ b := fun b hb => by rw [← hF0] at hb; exact hb.1
    clear hF0
    go_wp2_with fail
    refine hop.mono ?_
    rintro e w3 ⟨L, rfl, hN3, hL3, hb3⟩
    have hft := fit_any a0 c0 xs0 w3 F ((HE0.out F hFw).below hN3.bel) hN3.lt (by omega)
    clear hop
    go_wp2_with fail
    refine hft.mono ?_
    rintro e w4 ⟨⟨a4, c4, rfl, he4, hc4, hn4⟩, hb4⟩
    have hf0 := fitE_few xs0
    have hok0 := fitE_ok he4
    have hmp0 : (fitE (fitE xs0)).map Ent.en = (fitE xs0).map Ent.en := by unfold fitE; rw [List.filter_filter]; simp
    rw [hmp0] at hok0
    generalize fitE xs0 = fs0 at *
    have hN4 := hN3.below hb4
    have hgr := hN4.group a4 c4 fs0 he4 (by simp [zeroPt]; omega) (by simp [zeroPt]; omega) (by simp [zeroPt]; omega)
    rw [gr_ok hok0] at hgr
    clear hft hN3 hmp0
    go_wp2_with fail
    refine hgr.mono ?_
    rintro e w5 ⟨rfl, hN5, hg5⟩
    have he5 := he4.chg hg5
    clear hgr hN4 he4
    have hbl0 := bysE_len hok0
    rw [List.length_map] at hbl0
    simp only [zeroPt, List.nil_append, Nat.zero_add, List.length_map] at hN5 ⊢
    generalize hF5 : upto F w4 w5 = F5 at *
    have hrow := HC.out.row.below (hN5.bel)
    have h8 := HC.out.all
    have hnone := HC.out.none
    cases z1 with
    | nil =>
      clear hrow
      go_wp2_with fail
      go_ret
      exact ⟨rfl, hN5.bel⟩
    | cons z zs =>
      obtain ⟨b1, o1, rfl, hbl1, hcl1⟩ := hrow.here (i := 0) (by simp)
      have d0 := hcl1 0 (by simp)
      have hz0 : at0 (z :: zs) 0 = z := rfl
      rw [hz0, Nat.add_zero] at d0
      by_cases hz : z = 197
      · subst hz
        clear hrow hcl1
        go_wp2_with fail
        go_ret
        exact ⟨rfl, hN5.bel⟩
      · have hz2 : ((z : Int) == 197) = false := by simp; omega
        have hap := hN5.append (some ⟨b1, o1, none⟩) c1 (z :: zs) hrow h8 hnone (by simp at l1 ⊢; omega) (by simp at l1 ⊢; omega) (by simp; omega)
        clear hrow hcl1
        go_wp2_with fail
        refine hap.mono ?_
        rintro e w6 ⟨rfl, hN6, hg6⟩
        have he6 := he5.chg hg6
        clear hap he5 hN5
        simp only [opS, opX, down, Bool.false_and, Bool.false_eq_true, if_false, if_true] at hN6 ⊢
        generalize hF6 : upto F5 w5 w6 = F6 at *
        have hft := fit_any a2 c2 xs2 w6 F6 ((HE2.out F6 hN6.own).below hN6.bel) hN6.lt (by omega)
        go_wp2_with fail
        refine hft.mono ?_
        rintro e w7 ⟨⟨a7, c7, rfl, he7, hc7, hn7⟩, hb7⟩
        have hf2 := fitE_few xs2
        have hok2 := fitE_ok he7
        have hmp2 : (fitE (fitE xs2)).map Ent.en = (fitE xs2).map Ent.en := by unfold fitE; rw [List.filter_filter]; simp
        rw [hmp2] at hok2
        generalize fitE xs2 = fs2 at *
        have hN7 := hN6.below hb7
        have he67 := he6.below hb7
        have hgr := hN7.group a7 c7 fs2 he7 (by simp at l1 ⊢; omega) (by simp at l1 ⊢; omega) (by simp; omega)
        rw [gr_ok hok2] at hgr
        have hbl2 := bysE_len hok2
        rw [List.length_map] at hbl2
        clear hft hN6 hmp2 he6 hb7
        go_wp2_with fail
        refine hgr.mono ?_
        rintro e w8 ⟨rfl, hN8, hg8⟩
        have he8 := he67.chg hg8
        clear hgr hN7 he67 he7
        simp only at hN8 ⊢
        generalize hF8 : upto F6 w7 w8 = F8 at *
        have hen := hN8.entries (by simp at l1 ⊢; omega)
        simp only at hen
        have hlg : lgF 0 (bysE (fs0.map Ent.en) ++ z :: zs ++ bysE (fs2.map Ent.en)) = endsE 0 (fs0.map Ent.en) := by
          rw [List.append_assoc, lgF_many hok0, lgF_junk, List.append_nil]
          show z ≠ 197
          exact hz
        go_wp2_with fail
        refine hen.mono ?_
        rintro e w9 ⟨⟨ve, vn, ts, ns, rfl, hdoc, hnum, hte, _⟩, hb9⟩
        rw [hlg, endsE_fst] at hte
        obtain ⟨ea, ec, rfl, hets, _, _, _⟩ := hdoc.ets (F := fun _ => False) (fun _ h => h.elim)
        obtain ⟨na, nc, rfl, _, _, _, _⟩ := (OwnS.of_row (show World.ownsRow _ _ _ _ _ _ _ from hnum)).open
        have hlt : ts.length = fs0.length := by have := congrArg List.length hte; simpa using this
        have hal := alikeE_same ea a4 ec c4 ts fs0 w9 hets (he8.below hb9).any hte (by omega)
        have hN9 := hN8.below hb9
        clear hen hdoc hnum hN8 hlt
        go_wp2_with fail
        refine hal.mono ?_
        rintro e w10 ⟨rfl, hb10⟩
        clear hal
        go_wp2_with fail
        go_ret
        exact ⟨rfl, hN9.bel.trans (hb10.mono hN9.bel.size)⟩
  · omega
end Go.Proofs.Ytkacfpmninmjkaa.walJunk
