/- WalThere, walked. -/
import Derived.Test.YtkacfpmninmjkaaGreatWv1
import Derived.Test.YtkacfpmninmjkaaGreatWs1
namespace Go.Proofs.YtkacfpmninmjkaaGreat
open Go.RowKit

theorem Nl.chgd {w0 w w' : World} {F S : Nat → Prop} {L p : Nat} {am : Bool} {x : Pt} (h : Nl w0 w F L p am x) (hc : Chg S w w') (hS : ∀ b, F b → ¬ S b) (hL : ¬ S L) (h0 : ∀ b, S b → w0.heap.size ≤ b) : Nl w0 w' F L p am x := by
  obtain ⟨s, e, h1⟩ := h.dsk
  exact ⟨⟨s, e, h1.chg hc hS⟩, (hc.block L h.log.lt hL).trans h.log, h.far, h.own, h.ge, h.bel.trans (hc.below h0 h.bel.size)⟩
/-- What the law's loop holds: a log, the list of what it was told. -/
structure Thr (w wr : World) (L p : Nat) (v : Value) (ts : List Ent) (k : Nat) (F : Nat → Prop) (y : Pt) : Prop where
  nl : Nl w wr F L p false y
  base : y.B = 0
  bs : y.bs = bysE (ts.map Ent.en)
  cnt : y.c ≤ ts.length + k
  own : OwnS wr w.heap.size 77 6 v ts.length (celN ts)
  far : ∀ j, v.ownBlock = some j → ¬ F j ∧ j ≠ L
  ok : ∀ t ∈ ts, PcOk w t.val ∧ OkE t.en
theorem PcOk.far {w : World} {x : Pc} {F : Nat → Prop} (h : PcOk w x) (hF : ∀ b, F b → w.heap.size ≤ b) : x.p.length = 0 ∨ farA F x.a := by
  rcases h.row with h0 | ⟨b, o, e, hl, _⟩
  · exact .inl h0
  · refine .inr fun ad e2 hx => ?_
    rw [e] at e2; cases e2
    have := hF _ hx
    simp only at this
    omega
theorem Thr.okE {w wr : World} {L p : Nat} {v : Value} {ts : List Ent} {k : Nat} {F : Nat → Prop} {y : Pt} (h : Thr w wr L p v ts k F y) : ∀ x ∈ ts.map Ent.en, OkE x := fun x hx => by
  obtain ⟨t, ht, rfl⟩ := List.mem_map.1 hx
  exact (h.ok t ht).2
theorem Thr.below {w wr w' : World} {L p : Nat} {v : Value} {ts : List Ent} {k : Nat} {F : Nat → Prop} {y : Pt} (h : Thr w wr L p v ts k F y) (hb : Below wr.heap.size wr w') : Thr w w' L p v ts k F y :=
  ⟨h.nl.below hb, h.base, h.bs, h.cnt, h.own.below hb, h.far, h.ok⟩
/-- A round: some were written, then they are laid behind the list. -/
theorem Thr.next {w wr w' w2 : World} {L p : Nat} {v v' : Value} {ts fs : List Ent} {k : Nat} {F : Nat → Prop} {y y' : Pt} (h : Thr w wr L p v ts k F y) (hN : Nl w w' (upto F wr w') L p false y') (_hc : Chg F wr w')
    (hfs : ∀ t ∈ fs, PcOk w t.val ∧ OkE t.en) (hB : y'.B = 0) (hbs : y'.bs = y.bs ++ bysE (fs.map Ent.en)) (hcn : y'.c ≤ y.c + fs.length + 1)
    (ho : OwnS w2 w.heap.size 77 6 v' (ts.length + fs.length) (celN ts ++ celN fs)) (hg : w'.grownBy w2 v.ownBlock) (hat : v'.ownBlock = v.ownBlock ∨ v'.ownBlock = some w'.heap.size) :
    Thr w w2 L p v' (ts ++ fs) (k + 1) (upto F wr w') y' := by
  have hLw := h.nl.log.lt
  have hfar' : ∀ j, v.ownBlock = some j → ¬ upto F wr w' j ∧ j ≠ L := fun j hj => by
    obtain ⟨h1, h2⟩ := h.far j hj
    exact ⟨upto_not h1 (h.own.inside j hj).2, h2⟩
  refine ⟨?_, hB, ?_, ?_, by rw [List.length_append, celN_append]; exact ho, fun j hj => ?_, fun t ht => ?_⟩
  · exact hN.chgd (S := fun b => v.ownBlock = some b) (Chg.of_grown hg fun k _ e => e) (fun b hb e => (hfar' b e).1 hb) (fun e => (hfar' L e).2 rfl) (fun b e => (h.own.inside b e).1)
  · rw [hbs, h.bs, List.map_append, bysE_append]
  · have := h.cnt
    rw [List.length_append]; omega
  · rcases hat with e | e
    · exact hfar' j (by rw [← e]; exact hj)
    · rw [e] at hj
      cases hj
      have hlt := hN.lt
      have hL2 := hN.log.lt
      exact ⟨fun hx => by have := hlt _ hx; omega, by omega⟩
  · rcases List.mem_append.1 ht with h1 | h1
    · exact h.ok t h1
    · exact hfs t h1
end Go.Proofs.YtkacfpmninmjkaaGreat

namespace Go.Proofs.YtkacfpmninmjkaaGreat.walThere
open Go.RowKit

set_option maxRecDepth 100000 in
set_option maxHeartbeats 4000000 in
theorem walk (a0 : Option Addr) (n0 c0 : Nat) (A0 : Nat → Pk) (a1 : Option Addr) (n1 c1 : Nat) (A1 : Nat → Bool) (w : World) (s0 : CamePk w a0 n0 A0) (s1 : CameBo w a1 n1 A1) :
    Calls Tryz.prog 5 #[.slice a0 n0 c0, .slice a1 n1 c1] w fun e w' => e = .returned (.bool true) ∧ Below w.heap.size w w' := by
  have hvs := vastW_any a0 n0 c0 A0 w s0
  have HC := hide_it s0
  have HB := hide_it s1
  have hn0 := s0.size
  have hn1 := s1.size
  clear s0 s1
  go_enter Tryz.func5, Tryz.ntmps5
  go_wp2_with fail
  refine hvs.mono ?_
  rintro e wv ⟨⟨b, rfl, hbv⟩, hbwv⟩
  clear hvs
  cases b
  · have hcnt := hbv rfl
    have HCN := hide_it hcnt
    clear hbv hcnt
    have hnew := newD_any 1 wv
    go_wp2_with fail
    refine hnew.mono ?_
    rintro e w1 (⟨n, hn, h1, hM⟩ | ⟨hno, _, _⟩)
    · obtain rfl : n = 1 := by omega
      obtain ⟨p, hep, hdp⟩ := hM.ex
      subst hep
      have hfx := walFixed_any w1
      clear hnew hn h1
      go_wp2_with fail
      refine hfx.mono ?_
      rintro e w2 ⟨rfl, hb2⟩
      clear hfx
      have hbw2 := hM.bel.trans (hb2.mono hM.bel.size)
      have hsv := hbwv.size
      have hop := opened (hbwv.trans (hbw2.mono hsv)) (hdp.below hb2) (x := zeroPt) rfl (fun b hb => by have := hb.1; omega)
      clear hdp hM
      go_wp2_with fail
      refine hop.mono ?_
      rintro e w3 ⟨L, rfl, hN3, hL3, hb3⟩
      clear hop
      have HT0 : Hid (Thr w w3 L p (.slice none 0 0) [] 0 _ zeroPt) := ⟨hN3, rfl, rfl, Nat.le_refl _, OwnS.nil _ _ _ _, (fun j e => by cases e), (fun t ht => by cases ht)⟩
      clear hN3
      go_wp2_with fail
      go_loopw [8, 38] (fun v iv wr => ∃ (k : Nat) (ts : List Ent) (F : Nat → Prop) (y : Pt), k ≤ n0 ∧ iv = .int .i64 (k : Int) ∧ Hid (Thr w wr L p v ts k F y) ∧ Hid (ts.length ≤ cntP A0 k)) (fun _ iv _ => n0 - (intOf iv).toNat)
      case atStart => exact ⟨0, [], _, zeroPt, Nat.zero_le _, rfl, HT0, Nat.le_refl _⟩
      case round =>
        obtain ⟨k, ts, F, y, hk, rfl, HT, HL⟩ := hrel
        have hbwr := HT.out.nl.bel
        by_cases hlt : k < n0
        · have hd : decide ((k : Int) < (n0 : Int)) = true := by simp; omega
          obtain ⟨b1, o1, rfl, hbl, hcl⟩ : ∃ b o, a0 = some ⟨b, o, none⟩ ∧ b < w.heap.size ∧ ∀ i, i < n0 → w.cell? ⟨b, o + i, none⟩ = some (.slice (A0 i).a (A0 i).n (A0 i).c) := by
            rcases HC.out.row with h0 | h0
            · omega
            · exact h0
          have d0 := (hbwr.cell (p := ⟨b1, o1 + k, none⟩) hbl).trans (hcl k hlt)
          have hE := HC.out.each k hlt
          have hmono := cntP_mono A0 (show k + 1 ≤ n0 by omega)
          have hks : cntP A0 (k + 1) = cntP A0 k + (A0 k).n := rfl
          have hlen := HL.out
          have htot := HCN.out
          generalize hX : A0 k = X at *
          obtain ⟨xs, hxs⟩ : ∃ xs, xs = (List.range X.n).map X.A := ⟨_, rfl⟩
          have hxn : X.n = xs.length := by rw [hxs]; simp
          have hown := HT.out.nl.own
          have hets : Ets w F X.a xs := by rw [hxs]; exact hE.ets hown
          rw [hxn] at d0 hks
          have hft := fit_any X.a X.c xs wr F (hets.below hbwr) HT.out.nl.lt (by omega)
          have hf0 := fitE_few xs
          have hok0 := fitE_ok hets
          have hfok : ∀ t ∈ fitE xs, PcOk w t.val ∧ OkE t.en := fun t ht => ⟨(hets.each t (List.mem_filter.1 ht).1).1, (List.mem_filter.1 ht).2, (hets.each t (List.mem_filter.1 ht).1).1.all⟩
          have HFO := hide_it hfok
          have hbd : ts.length + xs.length ≤ 1073741824 := by omega
          have hycn := HT.out.cnt
          have hybs := HT.out.bs
          have hyl := bysE_len HT.out.okE
          rw [List.length_map, ← hybs] at hyl
          have hyB := HT.out.base
          have HKS : Hid (cntP A0 (k + 1) = cntP A0 k + xs.length) := hks
          clear hcl hE hxs hets hfok hxn hX hks hybs hmono htot hlen
          generalize fitE xs = fs at *
          go_wp2_with fail
          refine hft.mono ?_
          rintro e w4 ⟨⟨a4, c4, rfl, he4, hc4, hn4⟩, hb4⟩
          have HT4 := hide_it (HT.out.below hb4)
          have hdn := HT4.out.nl.done
          clear hft HT
          go_wp2_with fail
          refine hdn.mono ?_
          rintro e w5 ⟨rfl, hq⟩
          have hq2 := hq.symm
          subst hq2
          clear hq hdn
          have hbw4 := HT4.out.nl.bel
          by_cases hg : k < n1
          · have hd1 : decide ((k : Int) < (n1 : Int)) = true := by simp; omega
            obtain ⟨b2, o2, rfl, hbl2, hcl2⟩ : ∃ b o, a1 = some ⟨b, o, none⟩ ∧ b < w.heap.size ∧ ∀ i, i < n1 → w.cell? ⟨b, o + i, none⟩ = some (.bool (A1 i)) := by
              rcases HB.out.row with h0 | h0
              · omega
              · exact h0
            have d1 := (hbw4.cell (p := ⟨b2, o2 + k, none⟩) hbl2).trans (hcl2 k hg)
            clear hcl2
            cases hgb : A1 k
            · rw [hgb] at d1
              have hcl := HT4.out.nl.write a4 c4 fs he4 (by omega) (by omega) (by omega)
              rw [wr_ok (fun x hx => by obtain ⟨t, ht, rfl⟩ := List.mem_map.1 hx; exact (HFO.out t ht).2)] at hcl
              simp only [List.length_map] at hcl
              go_wp2_with fail
              refine hcl.mono ?_
              rintro e w6 ⟨rfl, hN6, hg6⟩
              simp only at hN6 ⊢
              have hdn := hN6.done
              simp only at hdn
              have he6 := he4.chg hg6
              have hwA : IntKind.i64.wrap ((y.c : Int) + (fs.length : Int)) = ((y.c + fs.length : Nat) : Int) := by simp only [IntKind.wrap, IntKind.bits, IntKind.signed]; simp; omega
              have hwB : IntKind.i64.wrap (((y.c + fs.length : Nat) : Int) + 1) = ((y.c + fs.length + 1 : Nat) : Int) := by simp only [IntKind.wrap, IntKind.bits, IntKind.signed]; simp; omega
              have ho6 := HT4.out.own.chg hg6 (fun j hj => (HT4.out.far j hj).1)
              obtain ⟨lA, cA, hvA, _⟩ := ho6.open
              subst hvA
              clear hcl he4
              go_wp2_with fail
              refine hdn.mono ?_
              rintro e w7 ⟨rfl, hq⟩
              have hq2 := hq.symm
              subst hq2
              clear hq hdn
              have hs6 := srcN he6 hn4
              have hbs6 := hN6.bel.size
              clear he6
              go_wp2_with (at_builtin; refine stopHere ?_)
              unfold Hid
              refine wpList_append_S rfl _ _ 38 38 rfl _ Tryz.underlying38 infoN rfl rfl ho6 _ rfl _ _ hs6 (by unfold maxLen; omega) (by omega) hbs6 ?_
              intro v8 w8 ho8 hg8 hat8
              have HT8 := hide_it (HT4.out.next hN6 hg6 HFO.out hyB rfl (by show y.c + fs.length ≤ _; omega) ho8 hg8 hat8)
              have HL8 : Hid ((ts ++ fs).length ≤ cntP A0 (k + 1)) := by
                have h5 := HL.out
                show _ ≤ _
                rw [HKS.out, List.length_append]; omega
              obtain ⟨p8, q8, hv8, _⟩ := ho8.open
              subst hv8
              clear ho8 hg8 hat8 hs6 ho6 hN6 hg6 HT4
              go_wp2_with fail
              go_roundw
              case rel => exact ⟨k + 1, _, _, _, by omega, by go_num, HT8, HL8⟩
              case measure => simp [intOf]; omega
            · rw [hgb] at d1
              have hcl := HT4.out.nl.group a4 c4 fs he4 (by omega) (by omega) (by omega)
              rw [gr_ok (fun x hx => by obtain ⟨t, ht, rfl⟩ := List.mem_map.1 hx; exact (HFO.out t ht).2)] at hcl
              simp only [List.length_map] at hcl
              go_wp2_with fail
              refine hcl.mono ?_
              rintro e w6 ⟨rfl, hN6, hg6⟩
              simp only at hN6 ⊢
              have hdn := hN6.done
              simp only at hdn
              have he6 := he4.chg hg6
              have hwA : IntKind.i64.wrap ((y.c : Int) + (fs.length : Int)) = ((y.c + fs.length : Nat) : Int) := by simp only [IntKind.wrap, IntKind.bits, IntKind.signed]; simp; omega
              have hwB : IntKind.i64.wrap (((y.c + fs.length : Nat) : Int) + 1) = ((y.c + fs.length + 1 : Nat) : Int) := by simp only [IntKind.wrap, IntKind.bits, IntKind.signed]; simp; omega
              have ho6 := HT4.out.own.chg hg6 (fun j hj => (HT4.out.far j hj).1)
              obtain ⟨lA, cA, hvA, _⟩ := ho6.open
              subst hvA
              clear hcl he4
              go_wp2_with fail
              refine hdn.mono ?_
              rintro e w7 ⟨rfl, hq⟩
              have hq2 := hq.symm
              subst hq2
              clear hq hdn
              have hs6 := srcN he6 hn4
              have hbs6 := hN6.bel.size
              clear he6
              go_wp2_with (at_builtin; refine stopHere ?_)
              unfold Hid
              refine wpList_append_S rfl _ _ 38 38 rfl _ Tryz.underlying38 infoN rfl rfl ho6 _ rfl _ _ hs6 (by unfold maxLen; omega) (by omega) hbs6 ?_
              intro v8 w8 ho8 hg8 hat8
              have HT8 := hide_it (HT4.out.next hN6 hg6 HFO.out hyB rfl (by show y.c + fs.length + 1 ≤ _; omega) ho8 hg8 hat8)
              have HL8 : Hid ((ts ++ fs).length ≤ cntP A0 (k + 1)) := by
                have h5 := HL.out
                show _ ≤ _
                rw [HKS.out, List.length_append]; omega
              obtain ⟨p8, q8, hv8, _⟩ := ho8.open
              subst hv8
              clear ho8 hg8 hat8 hs6 ho6 hN6 hg6 HT4
              go_wp2_with fail
              go_roundw
              case rel => exact ⟨k + 1, _, _, _, by omega, by go_num, HT8, HL8⟩
              case measure => simp [intOf]; omega
          · have hd1 : decide ((k : Int) < (n1 : Int)) = false := by simp; omega
            have hcl := HT4.out.nl.write a4 c4 fs he4 (by omega) (by omega) (by omega)
            rw [wr_ok (fun x hx => by obtain ⟨t, ht, rfl⟩ := List.mem_map.1 hx; exact (HFO.out t ht).2)] at hcl
            simp only [List.length_map] at hcl
            go_wp2_with fail
            refine hcl.mono ?_
            rintro e w6 ⟨rfl, hN6, hg6⟩
            simp only at hN6 ⊢
            have hdn := hN6.done
            simp only at hdn
            have he6 := he4.chg hg6
            have hwA : IntKind.i64.wrap ((y.c : Int) + (fs.length : Int)) = ((y.c + fs.length : Nat) : Int) := by simp only [IntKind.wrap, IntKind.bits, IntKind.signed]; simp; omega
            have hwB : IntKind.i64.wrap (((y.c + fs.length : Nat) : Int) + 1) = ((y.c + fs.length + 1 : Nat) : Int) := by simp only [IntKind.wrap, IntKind.bits, IntKind.signed]; simp; omega
            have ho6 := HT4.out.own.chg hg6 (fun j hj => (HT4.out.far j hj).1)
            obtain ⟨lA, cA, hvA, _⟩ := ho6.open
            subst hvA
            clear hcl he4
            go_wp2_with fail
            refine hdn.mono ?_
            rintro e w7 ⟨rfl, hq⟩
            have hq2 := hq.symm
            subst hq2
            clear hq hdn
            have hs6 := srcN he6 hn4
            have hbs6 := hN6.bel.size
            clear he6
            go_wp2_with (at_builtin; refine stopHere ?_)
            unfold Hid
            refine wpList_append_S rfl _ _ 38 38 rfl _ Tryz.underlying38 infoN rfl rfl ho6 _ rfl _ _ hs6 (by unfold maxLen; omega) (by omega) hbs6 ?_
            intro v8 w8 ho8 hg8 hat8
            have HT8 := hide_it (HT4.out.next hN6 hg6 HFO.out hyB rfl (by show y.c + fs.length ≤ _; omega) ho8 hg8 hat8)
            have HL8 : Hid ((ts ++ fs).length ≤ cntP A0 (k + 1)) := by
              have h5 := HL.out
              show _ ≤ _
              rw [HKS.out, List.length_append]; omega
            obtain ⟨p8, q8, hv8, _⟩ := ho8.open
            subst hv8
            clear ho8 hg8 hat8 hs6 ho6 hN6 hg6 HT4
            go_wp2_with fail
            go_roundw
            case rel => exact ⟨k + 1, _, _, _, by omega, by go_num, HT8, HL8⟩
            case measure => simp [intOf]; omega
        · have hd : decide ((k : Int) < (n0 : Int)) = false := by simp; omega
          have hkn : k = n0 := by omega
          subst hkn
          have hT := HT.out
          have hlen := HL.out
          have htot := HCN.out
          have hyl := bysE_len hT.okE
          rw [List.length_map, ← hT.bs] at hyl
          have hen := hT.nl.entries (by omega)
          rw [hT.base, hT.bs] at hen
          obtain ⟨aA, cA, hvA, heA, hcA⟩ := ownS_ets (F := fun _ => False) hT.own (fun _ h => h.elim) (fun t ht => ⟨(hT.ok t ht).1.below hbwr, .inr fun _ _ h => h⟩)
          subst hvA
          have hbd := hT.nl.bounds
          rw [hT.base, Nat.zero_add, Nat.zero_add] at hbd
          have hokE := hT.okE
          clear HT
          go_wp2_with fail
          refine hen.mono ?_
          rintro e w6 ⟨⟨ve, vn, ts6, ns6, rfl, hdoc, hnum, hte, hns⟩, hb6⟩
          rw [lgF_all hokE, endsE_fst] at hte
          rw [lgF_all hokE, endZ_shift] at hns
          subst hns
          obtain ⟨ea, ec, rfl, hets, _, _, _⟩ := hdoc.ets (F := fun _ => False) (fun _ h => h.elim)
          obtain ⟨na, nc, rfl, hz6, hznc, _, _⟩ := hnum.row
          have hzl := endZ_len 0 (ts.map Ent.en)
          rw [List.length_map] at hzl
          rw [hzl] at hznc ⊢
          have hbd6 := (hT.nl.below hb6).bounds
          rw [hT.base, Nat.zero_add, Nat.zero_add] at hbd6
          have HZL := hide_it hzl
          have hN6 := hT.nl.below hb6
          have heA6 := heA.below hb6
          have hbsl : y.bs.length = (bysE (ts.map Ent.en)).length := by rw [hT.bs]
          have HBS := hide_it hbsl
          clear hen hbd hdoc hnum hzl hT heA hbsl
          go_wp2_with fail
          refine hbd6.mono ?_
          rintro e w7 ⟨rfl, hb7⟩
          have htl : ts6.length = ts.length := by have := congrArg List.length hte; simpa using this
          have hal := alikeE_same ea aA ec cA ts6 ts w7 (hets.below hb7) (heA6.below hb7) hte (by omega)
          have hN7 := hN6.below hb7
          have hz7 := hz6.below hb7
          rw [htl] at hal ⊢
          clear hbd6 hets heA6 hte htl hN6 hz6
          go_wp2_with fail
          refine hal.mono ?_
          rintro e w8 ⟨rfl, hb8⟩
          have hN8 := hN7.below hb8
          have hz8 := hz7.below hb8
          clear hal hN7 hz7
          by_cases hpos0 : ts.length = 0
          · have hts : ts = [] := List.eq_nil_of_length_eq_zero hpos0
            subst hts
            have hy0 : y.bs.length = 0 := by rw [HBS.out]; rfl
            go_wp2_with fail
            go_ret
            exact ⟨rfl, hN8.bel⟩
          · have hpos : 0 < ts.length := by omega
            obtain ⟨b3, o3, rfl, hbl3, hcl3⟩ : ∃ b o, na = some ⟨b, o, none⟩ ∧ b < w8.heap.size ∧ ∀ (i z : Nat), (endZ 0 (ts.map Ent.en))[i]? = some z → w8.cell? ⟨b, o + i, none⟩ = some (.int .i64 (z : Int)) := by
              rcases hz8 with h0 | h0
              · rw [HZL.out] at h0; omega
              · exact h0
            have hgl := endZ_get (es := ts.map Ent.en) (i := ts.length - 1) (by rw [List.length_map]; omega)
            rw [show ts.length - 1 + 1 = ts.length by omega, List.take_of_length_le (by rw [List.length_map]; exact Nat.le_refl _), ← HBS.out] at hgl
            have d3 := hcl3 _ _ hgl
            obtain ⟨q, hq⟩ : ∃ q, q = ts.length - 1 := ⟨_, rfl⟩
            rw [← hq] at d3
            have hw1 : IntKind.i64.wrap ((ts.length : Int) - 1) = (q : Int) := by rw [hq]; simp only [IntKind.wrap, IntKind.bits, IntKind.signed]; simp; omega
            have hql : q < ts.length := by omega
            have hne : ((ts.length : Int) == 0) = false := by rw [beq_eq_false_iff_ne]; omega
            have hlt3 : (q : Int) < (ts.length : Int) := by omega
            replace hq := hide_it hq
            clear hcl3 hgl hz8
            go_wp2_with fail
            go_ret
            exact ⟨rfl, hN8.bel⟩
    · omega
  · clear hbv
    go_wp2_with fail
    go_ret
    exact ⟨rfl, hbwv⟩
end Go.Proofs.YtkacfpmninmjkaaGreat.walThere
