/- WalStruck, walked. -/
import Derived.Test.YtkacfpmninmjkaaGreatWs1
import Derived.Test.YtkacfpmninmjkaaGreatOpenFte
namespace Go.Proofs.YtkacfpmninmjkaaGreat.walStruck
open Go.RowKit

set_option maxRecDepth 100000 in
set_option maxHeartbeats 4000000 in
theorem walk (a0 : Option Addr) (n0 c0 : Nat) (A0 : Nat → Ent) (a1 : Option Addr) (n1 c1 : Nat) (A1 : Nat → Ent) (x2 : Bool) (f : Fte) (v : World) (s0 : CameEnt v a0 n0 A0 ∧ n0 ≤ 1048576) (s1 : CameEnt v a1 n1 A1 ∧ n1 ≤ 1048576) (s3 : FteOk v f) :
    Calls Tryz.prog 6 #[.slice a0 n0 c0, .slice a1 n1 c1, .bool x2, .agg #[.int .i64 f.d, .int .i64 f.k, .int .u8 (f.t : Int)]] v fun e w' => e = .returned (.bool true) ∧ Below v.heap.size v w' := by
  obtain ⟨w, hw⟩ : ∃ w, w = v.alloc (.cells #[.int .i64 f.d, .int .i64 f.k, .int .u8 (f.t : Int)] 52) := ⟨_, rfl⟩
  have hbv : Below v.heap.size v w := by rw [hw]; exact (Below.refl _ _).alloc (Nat.le_refl _) _
  have hvb : w.heap[v.heap.size]? = some (.cells #[.int .i64 f.d, .int .i64 f.k, .int .u8 (f.t : Int)] 52 (0, 0)) := by rw [hw]; exact heap_alloc_new v _
  have hvl : v.heap.size < w.heap.size := (Array.getElem?_eq_some_iff.1 hvb).1
  have hnew := newD_any 1 w
  obtain ⟨xs0, hxs0⟩ : ∃ xs, xs = (List.range n0).map A0 := ⟨_, rfl⟩
  obtain ⟨xs1, hxs1⟩ : ∃ xs, xs = (List.range n1).map A1 := ⟨_, rfl⟩
  have hn0 : n0 = xs0.length := by rw [hxs0]; simp
  have hn1 : n1 = xs1.length := by rw [hxs1]; simp
  have HE0 : Hid (∀ F : Nat → Prop, (∀ b, F b → w.heap.size ≤ b) → Ets w F a0 xs0) := fun F hF => by rw [hxs0]; exact (s0.1.below hbv).ets hF
  have HE1 : Hid (∀ F : Nat → Prop, (∀ b, F b → w.heap.size ≤ b) → Ets w F a1 xs1) := fun F hF => by rw [hxs1]; exact (s1.1.below hbv).ets hF
  have hl0 := s0.2
  have hl1 := s1.2
  rw [hn0] at hl0 ⊢
  rw [hn1] at hl1 ⊢
  have hft8 : f.t < 256 := s3.t
  clear s0 s1 s3 hxs0 hn0 hxs1 hn1
  go_enter Tryz.func6, Tryz.ntmps6
  go_wp2_with fail
  rw [← hw]
  clear hw
  refine hnew.mono ?_
  rintro e w1 (⟨n, hn, h1, hM⟩ | ⟨hno, _, _⟩)
  · obtain rfl : n = 1 := by omega
    obtain ⟨p, hep, hdp⟩ := hM.ex
    subst hep
    have hfx := walFixed_any w1
    clear hnew hn h1
    go_wp2_with fail
    refine hfx.mono ?_
    rintro e w2 ⟨rfl, hb2⟩
    clear hfx
    have hbw2 := hM.bel.trans (hb2.mono hM.bel.size)
    have hop := opened hbw2 (hdp.below hb2) (x := zeroPt) rfl (fun b hb => hb.1)
    clear hdp hM
    generalize hF0 : (fun b => w.heap.size ≤ b ∧ b < w1.heap.size) = F at hop
    have hFw : ∀ b, F b → w.heap.size ≤ b := fun b hb => by rw [← hF0] at hb; exact hb.1
    clear hF0
    go_wp2_with fail
    refine hop.mono ?_
    rintro e w3 ⟨L, rfl, hN3, hL3, hb3⟩
    have hft := fit_any a0 c0 xs0 w3 F ((HE0.out F hFw).below hN3.bel) hN3.lt (by omega)
    clear hop
    go_wp2_with fail
    refine hft.mono ?_
    rintro e w4 ⟨⟨a4, c4, rfl, he4, hc4, hn4⟩, hb4⟩
    have hf0 := fitE_few xs0
    have hok0 := fitE_ok he4
    have hmp0 : (fitE (fitE xs0)).map Ent.en = (fitE xs0).map Ent.en := by unfold fitE; rw [List.filter_filter]; simp
    rw [hmp0] at hok0
    generalize fitE xs0 = fs0 at *
    have hN4 := hN3.below hb4
    have hft1 := fit_any a1 c1 xs1 w4 F ((HE1.out F hFw).below hN4.bel) hN4.lt (by omega)
    clear hft hN3 hmp0
    go_wp2_with fail
    refine hft1.mono ?_
    rintro e w5 ⟨⟨a5, c5, rfl, he5, hc5, hn5⟩, hb5⟩
    have hf1 := fitE_few xs1
    have hok1 := fitE_ok he5
    have hmp1 : (fitE (fitE xs1)).map Ent.en = (fitE xs1).map Ent.en := by unfold fitE; rw [List.filter_filter]; simp
    rw [hmp1] at hok1
    generalize fitE xs1 = fs1 at *
    have hN5 := hN4.below hb5
    have he45 := he4.below hb5
    have hgr := hN5.group a4 c4 fs0 he45 (by simp [zeroPt]; omega) (by simp [zeroPt]; omega) (by simp [zeroPt]; omega)
    rw [gr_ok hok0] at hgr
    clear hft1 hN4 hmp1 he4
    go_wp2_with fail
    refine hgr.mono ?_
    rintro e w6 ⟨rfl, hN6, hg6⟩
    have he6 := he45.chg hg6
    have hq6 := he5.chg hg6
    clear hgr hN5 he45 he5
    have hbl0 := bysE_len hok0
    have hbl1 := bysE_len hok1
    rw [List.length_map] at hbl0 hbl1
    simp only [zeroPt, List.nil_append, Nat.zero_add, List.length_map] at hN6 ⊢
    generalize hF6 : upto F w5 w6 = F6 at *
    have hbx6 := (hN6.bel.block v.heap.size hvl).trans hvb
    have f0 : w6.cell? ⟨v.heap.size, 0, none⟩ = some (.int .i64 f.d) := cell_of_row _ _ _ _ _ _ hbx6
    have f1 : w6.cell? ⟨v.heap.size, 1, none⟩ = some (.int .i64 f.k) := cell_of_row _ _ _ _ _ _ hbx6
    have f2 : w6.cell? ⟨v.heap.size, 2, none⟩ = some (.int .u8 (f.t : Int)) := cell_of_row _ _ _ _ _ _ hbx6
    have hb7 : Below w6.heap.size w6 (w6.alloc (.cells #[.int .i64 f.d, .int .i64 f.k, .int .u8 (f.t : Int)] 52)) := (Below.refl _ _).alloc (Nat.le_refl _) _
    have har := (hN6.below hb7).arm (some ⟨w6.heap.size, 0, none⟩) 1 f (rowF_one w6 f.d f.k f.t _) (fun ad e hx => by cases e; have := hN6.lt _ hx; simp at this) hft8
    have he7 := he6.below hb7
    have hq7 := hq6.below hb7
    clear hN6 he6 hq6 hbx6 hb7
    go_wp2_with fail
    refine har.mono ?_
    rintro e w8 ⟨rfl, hN8, hg8⟩
    have he8 := he7.chg hg8
    have hq8 := hq7.chg hg8
    clear har he7 hq7 f0 f1 f2
    simp only [armP] at hN8
    generalize hF8 : upto F6 _ w8 = F8 at *
    obtain ⟨es0, hes0⟩ : ∃ es, es = fs0.map Ent.en := ⟨_, rfl⟩
    obtain ⟨es1, hes1⟩ : ∃ es, es = fs1.map Ent.en := ⟨_, rfl⟩
    have hel0 : es0.length = fs0.length := by rw [hes0]; simp
    have hel1 : es1.length = fs1.length := by rw [hes1]; simp
    have HES0 := hide_it hes0
    have HES1 := hide_it hes1
    have HL0 := hide_it hel0
    have HL1 := hide_it hel1
    rw [← hes0] at hok0 hbl0 hN8
    rw [← hes1] at hok1 hbl1
    cases x2
    · have hcl := hN8.write a5 c5 fs1 hq8 (by show (bysE es0).length + _ ≤ _; omega) (by show 0 + (bysE es0).length + _ ≤ _; omega) (by show 0 + _ ≤ _; omega)
      rw [← hes1] at hcl
      clear hes0 hes1 hel0 hel1
      obtain ⟨r, y, j, hrw, hS⟩ := strk_write (es0 := es0) hok1 f.d f.k f.t
      have hGk : True := trivial
      rw [hrw] at hcl
      have hybs : y.bs.length ≤ 4402 * fs0.length + 4402 * fs1.length := by
        have h2 : (bysE (es1.take j)).length ≤ (bysE es1).length := by rw [bysE_split es1 j, List.length_append]; omega
        rw [hS.bs, List.length_append]; omega
      obtain ⟨i, hi, htold, hfullk, hsl, hsB⟩ := strk_told hok0 hok1 hft8 hS
      have hans := hS.ans
      have HG := hide_it hGk
      have HT := hide_it htold
      have HK := hide_it hfullk
      clear hrw htold hGk hfullk hS
      go_wp2_with fail
      refine hcl.mono ?_
      rintro e w9 ⟨rfl, hN9, hg9⟩
      have he9 := he8.chg hg9
      have hq9 := hq8.chg hg9
      simp only at hN9 ⊢
      generalize hF9 : upto F8 w8 w9 = F9 at *
      have hst := hN9.strike
      clear hcl hN8 he8 hq8
      have hfin : Hid (∀ (m : Nat), m = fs0.length + i → False → m = fs0.length + fs1.length) := by
        intro m hm hr
        exact hr.elim
      clear HG HK
      rcases hans with rfl | rfl
      · go_wp2_with fail
        refine hst.mono ?_
        rintro e w10 ⟨rfl, hN10, hg10⟩
        have he10 := he9.chg hg10
        have hq10 := hq9.chg hg10
        generalize hF10 : upto F9 w9 w10 = F10 at *
        have hen := hN10.entries (by omega)
        rw [hsB] at hen
        clear hst hN9 he9 hq9
        go_wp2_with fail
        refine hen.mono ?_
        rintro e w11 ⟨⟨ve, vn, ts, ns, rfl, hdoc, hnum, hte, hns⟩, hb11⟩
        rw [HT.out] at hte
        obtain ⟨ea, ec, rfl, hets, _, _, _⟩ := hdoc.ets (F := fun _ => False) (fun _ h => h.elim)
        obtain ⟨na, nc, rfl, _, _, _, _⟩ := hnum.row
        have hN11 := hN10.below hb11
        have he11 := (he10.below hb11).any
        have hq11 := (hq10.below hb11).any
        have htl : ts.length = fs0.length + i := by
          have := congrArg List.length hte
          rw [List.length_map, List.length_append, List.length_take, HL0.out] at this
          omega
        have hnl : ns.length = ts.length := by
          rw [hns, List.length_map]
          have h2 := congrArg List.length HT.out
          rw [List.length_map] at h2
          have h3 := congrArg List.length hte
          rw [List.length_map] at h3
          omega
        have HNS := hide_it hnl
        have HTL := hide_it htl
        have HFN := hide_it (hfin.out ts.length htl)
        rw [hnl]
        have hbe : Below w11.heap.size w11 (w11.alloc (.cells #[] 77)) := (Below.refl _ _).alloc (Nat.le_refl _) _
        have hem := ets_emptyN w11
        have hs0 := srcN (he11.below hbe) hn4
        have hi1 : i ≤ fs1.length := by have := HL1.out; omega
        clear hen hdoc hnum hN10 he10 hq10 hns hnl htl hfin
        go_wp2_with (at_builtin; refine stopHere ?_)
        unfold Hid
        refine wpList_append_S rfl _ _ 38 38 rfl _ Tryz.underlying38 infoN rfl rfl hem _ rfl _ _ hs0 (by unfold maxLen; omega) (by omega) hbe.size ?_
        intro v12 w12 ho12 hg12 _
        rw [List.nil_append, Nat.zero_add] at ho12
        have hb12 : Below w11.heap.size w11 w12 := hbe.grown hg12 hbe.size (fun j e => by cases e; exact Nat.le_refl _)
        have hs1 := srcN (hq11.below hb12) hn5
        obtain ⟨p12, q12, hv12, _⟩ := ho12.open
        subst hv12
        clear hs0 hem hbe
        go_wp2_with (at_builtin; refine stopHere ?_)
        unfold Hid
        refine wpList_append_S rfl _ _ 38 38 rfl _ Tryz.underlying38 infoN rfl rfl ho12 _ rfl _ _ hs1 (by unfold maxLen; omega) (by omega) hb12.size ?_
        intro v13 w13 ho13 hg13 _
        have hb13 : Below w11.heap.size w11 w13 := hb12.grown hg13 hb12.size (fun j e => (ho12.inside j e).1)
        rw [← celN_append, ← List.length_append] at ho13
        obtain ⟨aA, cA, hvA, heA, hcA⟩ := ownS_ets (F := fun _ => False) ho13 (fun _ h => h.elim) (fun t ht => by
          rcases List.mem_append.1 ht with h3 | h3
          · exact (he11.below hb13).each t h3
          · exact (hq11.below hb13).each t h3)
        subst hvA
        have hlA : (fs0 ++ fs1).length = fs0.length + fs1.length := List.length_append
        have hal := alikeE_same ea aA ec cA ts ((fs0 ++ fs1).take ts.length) w13 (hets.below hb13) (heA.take ts.length) (by
          rw [hte, List.map_take, List.map_append, ← HES0.out, ← HES1.out, HTL.out, List.take_append, List.take_of_length_le (l := es0) (by rw [HL0.out]; omega)]
          congr 1
          rw [HL0.out, Nat.add_sub_cancel_left]) (by have := HTL.out; omega)
        rw [List.length_take, Nat.min_eq_left (by have := HTL.out; omega)] at hal
        have hle1 : fs0.length ≤ ts.length := by have := HTL.out; omega
        have hle2 : ts.length ≤ (fs0 ++ fs1).length := by have := HTL.out; omega
        have hcA2 : ts.length ≤ cA := by have := HTL.out; omega
        have HLA := hide_it hlA
        clear hs1 ho12 ho13 hets hte heA he11 hq11 hlA
        generalize (fs0 ++ fs1).length = nA at *
        skip
        go_wp2_with fail
        refine hal.mono ?_
        rintro e w14 ⟨rfl, hb14⟩
        have hb15 := hb13.trans (hb14.mono hb13.size)
        have hN14 := hN11.below hb15
        clear hal
        go_wp2_with fail
        go_ret
        exact ⟨rfl, hbv.trans (hN14.bel.mono hbv.size)⟩
      · go_wp2_with fail
        refine hst.mono ?_
        rintro e w10 ⟨rfl, hN10, hg10⟩
        have he10 := he9.chg hg10
        have hq10 := hq9.chg hg10
        generalize hF10 : upto F9 w9 w10 = F10 at *
        have hen := hN10.entries (by omega)
        rw [hsB] at hen
        clear hst hN9 he9 hq9
        go_wp2_with fail
        refine hen.mono ?_
        rintro e w11 ⟨⟨ve, vn, ts, ns, rfl, hdoc, hnum, hte, hns⟩, hb11⟩
        rw [HT.out] at hte
        obtain ⟨ea, ec, rfl, hets, _, _, _⟩ := hdoc.ets (F := fun _ => False) (fun _ h => h.elim)
        obtain ⟨na, nc, rfl, _, _, _, _⟩ := hnum.row
        have hN11 := hN10.below hb11
        have he11 := (he10.below hb11).any
        have hq11 := (hq10.below hb11).any
        have htl : ts.length = fs0.length + i := by
          have := congrArg List.length hte
          rw [List.length_map, List.length_append, List.length_take, HL0.out] at this
          omega
        have hnl : ns.length = ts.length := by
          rw [hns, List.length_map]
          have h2 := congrArg List.length HT.out
          rw [List.length_map] at h2
          have h3 := congrArg List.length hte
          rw [List.length_map] at h3
          omega
        have HNS := hide_it hnl
        have HTL := hide_it htl
        have HFN := hide_it (hfin.out ts.length htl)
        rw [hnl]
        have hbe : Below w11.heap.size w11 (w11.alloc (.cells #[] 77)) := (Below.refl _ _).alloc (Nat.le_refl _) _
        have hem := ets_emptyN w11
        have hs0 := srcN (he11.below hbe) hn4
        have hi1 : i ≤ fs1.length := by have := HL1.out; omega
        clear hen hdoc hnum hN10 he10 hq10 hns hnl htl hfin
        go_wp2_with (at_builtin; refine stopHere ?_)
        unfold Hid
        refine wpList_append_S rfl _ _ 38 38 rfl _ Tryz.underlying38 infoN rfl rfl hem _ rfl _ _ hs0 (by unfold maxLen; omega) (by omega) hbe.size ?_
        intro v12 w12 ho12 hg12 _
        rw [List.nil_append, Nat.zero_add] at ho12
        have hb12 : Below w11.heap.size w11 w12 := hbe.grown hg12 hbe.size (fun j e => by cases e; exact Nat.le_refl _)
        have hs1 := srcN (hq11.below hb12) hn5
        obtain ⟨p12, q12, hv12, _⟩ := ho12.open
        subst hv12
        clear hs0 hem hbe
        go_wp2_with (at_builtin; refine stopHere ?_)
        unfold Hid
        refine wpList_append_S rfl _ _ 38 38 rfl _ Tryz.underlying38 infoN rfl rfl ho12 _ rfl _ _ hs1 (by unfold maxLen; omega) (by omega) hb12.size ?_
        intro v13 w13 ho13 hg13 _
        have hb13 : Below w11.heap.size w11 w13 := hb12.grown hg13 hb12.size (fun j e => (ho12.inside j e).1)
        rw [← celN_append, ← List.length_append] at ho13
        obtain ⟨aA, cA, hvA, heA, hcA⟩ := ownS_ets (F := fun _ => False) ho13 (fun _ h => h.elim) (fun t ht => by
          rcases List.mem_append.1 ht with h3 | h3
          · exact (he11.below hb13).each t h3
          · exact (hq11.below hb13).each t h3)
        subst hvA
        have hlA : (fs0 ++ fs1).length = fs0.length + fs1.length := List.length_append
        have hal := alikeE_same ea aA ec cA ts ((fs0 ++ fs1).take ts.length) w13 (hets.below hb13) (heA.take ts.length) (by
          rw [hte, List.map_take, List.map_append, ← HES0.out, ← HES1.out, HTL.out, List.take_append, List.take_of_length_le (l := es0) (by rw [HL0.out]; omega)]
          congr 1
          rw [HL0.out, Nat.add_sub_cancel_left]) (by have := HTL.out; omega)
        rw [List.length_take, Nat.min_eq_left (by have := HTL.out; omega)] at hal
        have hle1 : fs0.length ≤ ts.length := by have := HTL.out; omega
        have hle2 : ts.length ≤ (fs0 ++ fs1).length := by have := HTL.out; omega
        have hcA2 : ts.length ≤ cA := by have := HTL.out; omega
        have HLA := hide_it hlA
        clear hs1 ho12 ho13 hets hte heA he11 hq11 hlA
        generalize (fs0 ++ fs1).length = nA at *
        skip
        go_wp2_with fail
        refine hal.mono ?_
        rintro e w14 ⟨rfl, hb14⟩
        have hb15 := hb13.trans (hb14.mono hb13.size)
        have hN14 := hN11.below hb15
        clear hal
        go_wp2_with fail
        go_ret
        exact ⟨rfl, hbv.trans (hN14.bel.mono hbv.size)⟩
    · have hcl := hN8.group a5 c5 fs1 hq8 (by show (bysE es0).length + _ ≤ _; omega) (by show 0 + (bysE es0).length + _ ≤ _; omega) (by show 0 + _ ≤ _; omega)
      rw [← hes1] at hcl
      clear hes0 hes1 hel0 hel1
      obtain ⟨r, y, j, hrw, hS, hGk⟩ := strk_group (es0 := es0) hok1 f.d f.k f.t
      rw [hrw] at hcl
      have hybs : y.bs.length ≤ 4402 * fs0.length + 4402 * fs1.length := by
        have h2 : (bysE (es1.take j)).length ≤ (bysE es1).length := by rw [bysE_split es1 j, List.length_append]; omega
        rw [hS.bs, List.length_append]; omega
      obtain ⟨i, hi, htold, hfullk, hsl, hsB⟩ := strk_told hok0 hok1 hft8 hS
      have hans := hS.ans
      have HG := hide_it hGk
      have HT := hide_it htold
      have HK := hide_it hfullk
      clear hrw htold hGk hfullk hS
      go_wp2_with fail
      refine hcl.mono ?_
      rintro e w9 ⟨rfl, hN9, hg9⟩
      have he9 := he8.chg hg9
      have hq9 := hq8.chg hg9
      simp only at hN9 ⊢
      generalize hF9 : upto F8 w8 w9 = F9 at *
      have hst := hN9.strike
      clear hcl hN8 he8 hq8
      have hfin : Hid (∀ (m : Nat), m = fs0.length + i → r = 0 → m = fs0.length + fs1.length) := by
        intro m hm hr
        have := HK.out (HG.out hr); have := HL1.out; omega
      clear HG HK
      rcases hans with rfl | rfl
      · go_wp2_with fail
        refine hst.mono ?_
        rintro e w10 ⟨rfl, hN10, hg10⟩
        have he10 := he9.chg hg10
        have hq10 := hq9.chg hg10
        generalize hF10 : upto F9 w9 w10 = F10 at *
        have hen := hN10.entries (by omega)
        rw [hsB] at hen
        clear hst hN9 he9 hq9
        go_wp2_with fail
        refine hen.mono ?_
        rintro e w11 ⟨⟨ve, vn, ts, ns, rfl, hdoc, hnum, hte, hns⟩, hb11⟩
        rw [HT.out] at hte
        obtain ⟨ea, ec, rfl, hets, _, _, _⟩ := hdoc.ets (F := fun _ => False) (fun _ h => h.elim)
        obtain ⟨na, nc, rfl, _, _, _, _⟩ := hnum.row
        have hN11 := hN10.below hb11
        have he11 := (he10.below hb11).any
        have hq11 := (hq10.below hb11).any
        have htl : ts.length = fs0.length + i := by
          have := congrArg List.length hte
          rw [List.length_map, List.length_append, List.length_take, HL0.out] at this
          omega
        have hnl : ns.length = ts.length := by
          rw [hns, List.length_map]
          have h2 := congrArg List.length HT.out
          rw [List.length_map] at h2
          have h3 := congrArg List.length hte
          rw [List.length_map] at h3
          omega
        have HNS := hide_it hnl
        have HTL := hide_it htl
        have HFN := hide_it (hfin.out ts.length htl)
        rw [hnl]
        have hbe : Below w11.heap.size w11 (w11.alloc (.cells #[] 77)) := (Below.refl _ _).alloc (Nat.le_refl _) _
        have hem := ets_emptyN w11
        have hs0 := srcN (he11.below hbe) hn4
        have hi1 : i ≤ fs1.length := by have := HL1.out; omega
        clear hen hdoc hnum hN10 he10 hq10 hns hnl htl hfin
        go_wp2_with (at_builtin; refine stopHere ?_)
        unfold Hid
        refine wpList_append_S rfl _ _ 38 38 rfl _ Tryz.underlying38 infoN rfl rfl hem _ rfl _ _ hs0 (by unfold maxLen; omega) (by omega) hbe.size ?_
        intro v12 w12 ho12 hg12 _
        rw [List.nil_append, Nat.zero_add] at ho12
        have hb12 : Below w11.heap.size w11 w12 := hbe.grown hg12 hbe.size (fun j e => by cases e; exact Nat.le_refl _)
        have hs1 := srcN (hq11.below hb12) hn5
        obtain ⟨p12, q12, hv12, _⟩ := ho12.open
        subst hv12
        clear hs0 hem hbe
        go_wp2_with (at_builtin; refine stopHere ?_)
        unfold Hid
        refine wpList_append_S rfl _ _ 38 38 rfl _ Tryz.underlying38 infoN rfl rfl ho12 _ rfl _ _ hs1 (by unfold maxLen; omega) (by omega) hb12.size ?_
        intro v13 w13 ho13 hg13 _
        have hb13 : Below w11.heap.size w11 w13 := hb12.grown hg13 hb12.size (fun j e => (ho12.inside j e).1)
        rw [← celN_append, ← List.length_append] at ho13
        obtain ⟨aA, cA, hvA, heA, hcA⟩ := ownS_ets (F := fun _ => False) ho13 (fun _ h => h.elim) (fun t ht => by
          rcases List.mem_append.1 ht with h3 | h3
          · exact (he11.below hb13).each t h3
          · exact (hq11.below hb13).each t h3)
        subst hvA
        have hlA : (fs0 ++ fs1).length = fs0.length + fs1.length := List.length_append
        have hal := alikeE_same ea aA ec cA ts ((fs0 ++ fs1).take ts.length) w13 (hets.below hb13) (heA.take ts.length) (by
          rw [hte, List.map_take, List.map_append, ← HES0.out, ← HES1.out, HTL.out, List.take_append, List.take_of_length_le (l := es0) (by rw [HL0.out]; omega)]
          congr 1
          rw [HL0.out, Nat.add_sub_cancel_left]) (by have := HTL.out; omega)
        rw [List.length_take, Nat.min_eq_left (by have := HTL.out; omega)] at hal
        have hle1 : fs0.length ≤ ts.length := by have := HTL.out; omega
        have hle2 : ts.length ≤ (fs0 ++ fs1).length := by have := HTL.out; omega
        have hcA2 : ts.length ≤ cA := by have := HTL.out; omega
        have HLA := hide_it hlA
        clear hs1 ho12 ho13 hets hte heA he11 hq11 hlA
        generalize (fs0 ++ fs1).length = nA at *
        have hfe : ts.length = nA := by rw [HFN.out (by trivial), HLA.out]
        have hd3 : ((ts.length : Int) == (nA : Int)) = true := by rw [hfe]; simp
        clear hfe
        go_wp2_with fail
        refine hal.mono ?_
        rintro e w14 ⟨rfl, hb14⟩
        have hb15 := hb13.trans (hb14.mono hb13.size)
        have hN14 := hN11.below hb15
        clear hal
        go_wp2_with fail
        go_ret
        exact ⟨rfl, hbv.trans (hN14.bel.mono hbv.size)⟩
      · go_wp2_with fail
        refine hst.mono ?_
        rintro e w10 ⟨rfl, hN10, hg10⟩
        have he10 := he9.chg hg10
        have hq10 := hq9.chg hg10
        generalize hF10 : upto F9 w9 w10 = F10 at *
        have hen := hN10.entries (by omega)
        rw [hsB] at hen
        clear hst hN9 he9 hq9
        go_wp2_with fail
        refine hen.mono ?_
        rintro e w11 ⟨⟨ve, vn, ts, ns, rfl, hdoc, hnum, hte, hns⟩, hb11⟩
        rw [HT.out] at hte
        obtain ⟨ea, ec, rfl, hets, _, _, _⟩ := hdoc.ets (F := fun _ => False) (fun _ h => h.elim)
        obtain ⟨na, nc, rfl, _, _, _, _⟩ := hnum.row
        have hN11 := hN10.below hb11
        have he11 := (he10.below hb11).any
        have hq11 := (hq10.below hb11).any
        have htl : ts.length = fs0.length + i := by
          have := congrArg List.length hte
          rw [List.length_map, List.length_append, List.length_take, HL0.out] at this
          omega
        have hnl : ns.length = ts.length := by
          rw [hns, List.length_map]
          have h2 := congrArg List.length HT.out
          rw [List.length_map] at h2
          have h3 := congrArg List.length hte
          rw [List.length_map] at h3
          omega
        have HNS := hide_it hnl
        have HTL := hide_it htl
        have HFN := hide_it (hfin.out ts.length htl)
        rw [hnl]
        have hbe : Below w11.heap.size w11 (w11.alloc (.cells #[] 77)) := (Below.refl _ _).alloc (Nat.le_refl _) _
        have hem := ets_emptyN w11
        have hs0 := srcN (he11.below hbe) hn4
        have hi1 : i ≤ fs1.length := by have := HL1.out; omega
        clear hen hdoc hnum hN10 he10 hq10 hns hnl htl hfin
        go_wp2_with (at_builtin; refine stopHere ?_)
        unfold Hid
        refine wpList_append_S rfl _ _ 38 38 rfl _ Tryz.underlying38 infoN rfl rfl hem _ rfl _ _ hs0 (by unfold maxLen; omega) (by omega) hbe.size ?_
        intro v12 w12 ho12 hg12 _
        rw [List.nil_append, Nat.zero_add] at ho12
        have hb12 : Below w11.heap.size w11 w12 := hbe.grown hg12 hbe.size (fun j e => by cases e; exact Nat.le_refl _)
        have hs1 := srcN (hq11.below hb12) hn5
        obtain ⟨p12, q12, hv12, _⟩ := ho12.open
        subst hv12
        clear hs0 hem hbe
        go_wp2_with (at_builtin; refine stopHere ?_)
        unfold Hid
        refine wpList_append_S rfl _ _ 38 38 rfl _ Tryz.underlying38 infoN rfl rfl ho12 _ rfl _ _ hs1 (by unfold maxLen; omega) (by omega) hb12.size ?_
        intro v13 w13 ho13 hg13 _
        have hb13 : Below w11.heap.size w11 w13 := hb12.grown hg13 hb12.size (fun j e => (ho12.inside j e).1)
        rw [← celN_append, ← List.length_append] at ho13
        obtain ⟨aA, cA, hvA, heA, hcA⟩ := ownS_ets (F := fun _ => False) ho13 (fun _ h => h.elim) (fun t ht => by
          rcases List.mem_append.1 ht with h3 | h3
          · exact (he11.below hb13).each t h3
          · exact (hq11.below hb13).each t h3)
        subst hvA
        have hlA : (fs0 ++ fs1).length = fs0.length + fs1.length := List.length_append
        have hal := alikeE_same ea aA ec cA ts ((fs0 ++ fs1).take ts.length) w13 (hets.below hb13) (heA.take ts.length) (by
          rw [hte, List.map_take, List.map_append, ← HES0.out, ← HES1.out, HTL.out, List.take_append, List.take_of_length_le (l := es0) (by rw [HL0.out]; omega)]
          congr 1
          rw [HL0.out, Nat.add_sub_cancel_left]) (by have := HTL.out; omega)
        rw [List.length_take, Nat.min_eq_left (by have := HTL.out; omega)] at hal
        have hle1 : fs0.length ≤ ts.length := by have := HTL.out; omega
        have hle2 : ts.length ≤ (fs0 ++ fs1).length := by have := HTL.out; omega
        have hcA2 : ts.length ≤ cA := by have := HTL.out; omega
        have HLA := hide_it hlA
        clear hs1 ho12 ho13 hets hte heA he11 hq11 hlA
        generalize (fs0 ++ fs1).length = nA at *
        skip
        go_wp2_with fail
        refine hal.mono ?_
        rintro e w14 ⟨rfl, hb14⟩
        have hb15 := hb13.trans (hb14.mono hb13.size)
        have hN14 := hN11.below hb15
        clear hal
        go_wp2_with fail
        go_ret
        exact ⟨rfl, hbv.trans (hN14.bel.mono hbv.size)⟩
  · omega
end Go.Proofs.YtkacfpmninmjkaaGreat.walStruck
