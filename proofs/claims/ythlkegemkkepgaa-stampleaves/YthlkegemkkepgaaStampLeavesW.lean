/- The law on memory, walked. -/
import Derived.Test.YthlkegemkkepgaaLv1
import Derived.Test.YthlkegemkkepgaaOpenIn
namespace Go.Proofs.Ythlkegemkkepgaa.stampLeaves
open Go.RowKit

set_option maxRecDepth 100000 in
set_option maxHeartbeats 8000000 in
theorem walk (a : Option Addr) (n c : Nat) (A : Nat → Sta) (b : Option Addr) (cb : Nat) (ps : List Int) (w : World) (ha : CameSta w a n A) (hb : CameI w b cb ps) :
    Calls Try.prog 4 #[.slice a n c, .slice b ps.length cb] w fun e w' => e = .returned (.bool true) ∧ Below w.heap.size w w' := by
  have hn := ha.size
  have hl := hb.size
  obtain ⟨L, hL⟩ : ∃ L, L = ps.length := ⟨_, rfl⟩
  rw [← hL]
  rw [← hL] at hl
  have HL := hide_it hL
  clear hL
  go_enter Try.func4, Try.ntmps4
  go_wp2_with fail
  refine (head_any _).mono ?_
  rintro e w0 ⟨rfl, b0⟩
  have h1 := clocks_any a n c A w0 (ha.below b0)
  have Hb0 := hide_it (hb.below b0)
  have z0 := b0.size
  have HB0 := hide_it b0
  clear ha hb b0
  go_wp2_with fail
  refine h1.mono ?_
  rintro e w1 ⟨⟨v1, v2, P, rfl, hc1⟩, b1⟩
  clear h1
  have z1 := b1.size
  have HC1 := hide_it hc1
  have HB1 := hide_it b1
  have hb2 : Below w1.heap.size w1 (w1.alloc (.cells #[] 24)) := (Below.refl _ _).alloc (Nat.le_refl _) _
  have ho2 := own_emptyS w1 24 1
  have hs2 := srcPs (hc1.ptr.below hb2)
  clear hc1 b1
  go_wp2_with (at_builtin; refine stopHere ?_)
  unfold Hid
  refine wpList_append_S rfl _ _ 46 46 rfl (.pointer none) Try.underlying46 infoP rfl rfl ho2 _ rfl n _ hs2 (by unfold maxLen; omega) (by omega) hb2.size ?_
  intro v7 w2 ho2' hg2 hat2
  have HO2 : Hid (OwnS w2 w1.heap.size 24 1 v7 n (celP (mkC A) P n)) := by
    unfold Hid; simpa using ho2'
  have hb3 : Below w1.heap.size w1 w2 := hb2.grown hg2 hb2.size (fun j e => by cases e; exact Nat.le_refl _)
  have z2 := hb3.size
  have HB2 := hide_it hb3
  have hcp := copied_any b cb ps w2 (((Hb0.out.below HB1.out).below hb3).row) (by have := HL.out; omega) Hb0.out.none
  rw [← HL.out] at hcp
  clear hb2 ho2 hs2 ho2' hg2 hat2 hb3
  go_wp2_with fail
  refine hcp.mono ?_
  rintro e w3 ⟨⟨r3, rfl, o3⟩, b3⟩
  clear hcp
  have z3 := b3.size
  have hgr := grown_any r3 ps (-77) w2.heap.size w3 o3 z3 (by have := HL.out; omega)
  have HI3 := hide_it o3.inside
  have HB3 := hide_it b3
  clear o3 b3
  go_wp2_with fail
  refine hgr.mono ?_
  rintro e w4 ⟨⟨r4, rfl, o4, _⟩, c4⟩
  clear hgr
  have b4 : Below w2.heap.size w2 w4 := HB3.out.trans (c4.below (fun k hk => (HI3.out k hk).1) z3)
  have z4 := b4.size
  obtain ⟨la, lc, rfl, hlr, hlc, _, hln⟩ := o4.row
  have hcp := copied_any la lc _ w4 hlr (by have := HL.out; rw [plusM_len]; omega) hln
  have HO4 := hide_it o4
  have HB4 := hide_it b4
  rw [plusM_len, ← HL.out] at hcp HO4 hlc
  rw [plusM_len, ← HL.out]
  clear c4 o4 b4 hlr hln HI3 HB3
  go_wp2_with fail
  refine hcp.mono ?_
  rintro e w5 ⟨⟨r5, rfl, o5⟩, b5⟩
  clear hcp
  have z5 := b5.size
  have HO5 := hide_it o5
  have HB5 := hide_it b5
  have hlc2 : (L : Int) ≤ (lc : Int) := by omega
  have HC5 := hide_it (((HC1.out.below HB2.out).below HB4.out).below b5)
  have HW5 := hide_it ((HO2.out.below HB4.out).below b5)
  have HL5 := hide_it (HO4.out.below b5)
  have HBW : Hid (Below w.heap.size w w5) := hide_it (HB0.out.trans ((HB1.out.trans ((HB2.out.trans ((HB4.out.trans (b5.mono z4)).mono z2)).mono z1)).mono z0))
  have hcb0 := Hb0.out
  have HCB : Hid (CameI w5 b cb ps) := hide_it (((hcb0.below HB1.out).below HB2.out).below (HB4.out.trans (b5.mono z4)))
  clear hcb0 o5 b5 HC1 HO2 HO4 HB0 HB1 HB2 HB4 HB5 Hb0
  obtain ⟨V, hV⟩ : ∃ V, V = vecOf n (mkC A) ps := ⟨_, rfl⟩
  have HV := hide_it hV
  have HVl : Hid (V.length = n) := by unfold Hid; rw [hV, vecOf_len]
  clear hV
  obtain ⟨pa, ca, rfl, hpa, hca, _⟩ := HC5.out.rowP
  have htk := take_any pa n ca (mkC A) P la lc ps w5 hpa HC5.out.pk HC5.out.ok HL5.out.rowN.1.beg (by omega) (by have := HL.out; omega)
  rw [← HL.out, ← HV.out] at htk
  clear hpa
  go_wp2_with fail
  refine htk.mono ?_
  rintro e w6 ⟨⟨r6, rfl, o6⟩, b6⟩
  clear htk
  have z6 := b6.size
  have hc6 := HC5.out.below b6
  have hl6 := HL5.out.below b6
  obtain ⟨pa', ca', ep, hpa, _, _⟩ := hc6.rowP
  cases ep
  have htk := take_any pa n ca (mkC A) P la lc ps w6 hpa hc6.pk hc6.ok hl6.rowN.1.beg (by omega) (by have := HL.out; omega)
  rw [← HL.out, ← HV.out] at htk
  have HO6 := hide_it o6
  have HB6 := hide_it b6
  clear hpa hc6 hl6 o6 b6
  go_wp2_with fail
  refine htk.mono ?_
  rintro e w7 ⟨⟨r7, rfl, o7⟩, b7⟩
  clear htk
  have z7 := b7.size
  have HO7 := hide_it o7
  have HB7 := hide_it (HB6.out.trans (b7.mono z6))
  have HO67 := hide_it (HO6.out.below b7)
  have hl7 := (HL5.out.below HB6.out).below b7
  have hbl := below_any la la lc lc ps (plusM ps (-77) 80) w7 hl7.rowN.1.beg hl7.rowN.1 (by have := HL.out; omega)
  rw [under_long, plusM_len, ← HL.out] at hbl
  clear o7 b7 hl7
  go_wp2_with fail
  refine hbl.mono ?_
  rintro e w8 ⟨rfl, b8⟩
  clear hbl
  have z8 := b8.size
  have HB8 := hide_it (HB7.out.trans (b8.mono (by omega)))
  have hc8 := HC5.out.below HB8.out
  obtain ⟨ka, kc, rfl, hka, hkc⟩ := hc8.rowK
  have hrt := rtake_any ka n kc (mkC A) b cb ps w8 hka (HCB.out.below HB8.out).row (by omega) (by have := HL.out; omega)
  rw [← HL.out, ← HV.out] at hrt
  have HO678 := hide_it (HO67.out.below b8)
  have HO78 := hide_it (HO7.out.below b8)
  clear hka hc8 b8
  go_wp2_with fail
  refine hrt.mono ?_
  rintro e w9 ⟨⟨r9, rfl, o9⟩, b9⟩
  clear hrt
  have z9 := b9.size
  have hB9 := HB8.out.trans (b9.mono (by omega))
  have HB9 := hide_it hB9
  have HO69 := hide_it (HO678.out.below b9)
  have HO79 := hide_it (HO78.out.below b9)
  have HO9 := hide_it o9
  have HI6 := hide_it HO6.out.inside
  have HI7 := hide_it HO7.out.inside
  have HI9 := hide_it o9.inside
  clear HO6 HO7 HO67 HO678 HO78 HB6 HB7 HB8 hB9 o9 b9
  have ZC : Hid (∀ w', Zn w9 w0.heap.size w5.heap.size w7.heap.size w9.heap.size w' → Cls w' w0.heap.size (.slice pa n ca) (.slice ka n kc) n (mkC A) P) := fun w' h =>
    HC5.out.keep (by have := h.size; omega) fun j h1 h2 => h.old HB9.out h1 h2
  have ZW : Hid (∀ w', Zn w9 w0.heap.size w5.heap.size w7.heap.size w9.heap.size w' → OwnS w' w1.heap.size 24 1 v7 n (celP (mkC A) P n)) := fun w' h =>
    HW5.out.keep fun j hj => h.old HB9.out (by have := HW5.out.inside j hj; omega) (HW5.out.inside j hj).2
  have ZL : Hid (∀ w', Zn w9 w0.heap.size w5.heap.size w7.heap.size w9.heap.size w' → OwI w' w2.heap.size (.slice la (L + 80) lc) (plusM ps (-77) 80)) := fun w' h =>
    HL5.out.keep fun j hj => h.old HB9.out (by have := HL5.out.inside j hj; omega) (HL5.out.inside j hj).2
  have ZF : Hid (∀ w', Zn w9 w0.heap.size w5.heap.size w7.heap.size w9.heap.size w' → OwI w' w4.heap.size r5 (plusM ps (-77) 80)) := fun w' h =>
    HO5.out.keep fun j hj => h.old HB9.out (by have := HO5.out.inside j hj; omega) (HO5.out.inside j hj).2
  have ZV : Hid (∀ w', Zn w9 w0.heap.size w5.heap.size w7.heap.size w9.heap.size w' → OwI w' w8.heap.size r9 V) := fun w' h =>
    HO9.out.keep fun j hj => h.blk j (.inr (by have := HI9.out j hj; omega))
  have Z9 : Zn w9 w0.heap.size w5.heap.size w7.heap.size w9.heap.size w9 := ⟨Nat.le_refl _, fun _ _ => rfl⟩
  have ZB : Hid (∀ w w', Zn w9 w0.heap.size w5.heap.size w7.heap.size w9.heap.size w → Below w.heap.size w w' → Zn w9 w0.heap.size w5.heap.size w7.heap.size w9.heap.size w') := fun w w' h hb => h.below hb (by omega) (by omega)
  have ZS : Hid (∀ w w' (S : Nat → Prop), Zn w9 w0.heap.size w5.heap.size w7.heap.size w9.heap.size w → Chg S w w' → (∀ j, S j → w5.heap.size ≤ j ∧ j < w7.heap.size) → Zn w9 w0.heap.size w5.heap.size w7.heap.size w9.heap.size w') := fun w w' S h hc hs => h.chg hc hs (by omega) (by omega) (by omega)
  have HBW9 : Hid (Below w.heap.size w w9) := hide_it (HBW.out.trans (HB9.out.mono (by omega)))
  have hsZ : Hid (∀ w', Zn w9 w0.heap.size w5.heap.size w7.heap.size w9.heap.size w' → w9.heap.size ≤ w'.heap.size) := fun w' h => h.size
  obtain ⟨Z, hZ⟩ : ∃ Z, Z = Zn w9 w0.heap.size w5.heap.size w7.heap.size w9.heap.size := ⟨_, rfl⟩
  rw [← hZ] at ZC ZW ZL ZF ZV Z9 ZB ZS hsZ
  clear hZ HC5 HW5 HL5 HO5 HO9 HCB HBW
  have HZ9 := hide_it Z9
  clear Z9
  obtain ⟨fa, fc, rfl, _, _, _, _⟩ := (ZF.out _ HZ9.out).row
  rw [plusM_len, ← HL.out] at ZF
  obtain ⟨oa, oc, rfl, _, hoc, _, _⟩ := HO69.out.row
  obtain ⟨ta, tc, rfl, _, htc, _, _⟩ := HO79.out.row
  obtain ⟨va, vc, rfl, _, hvc, _, _⟩ := (ZV.out _ HZ9.out).row
  rw [HVl.out] at ZV HO69 HO79 hoc htc hvc HI6 HI7
  rw [plusM_len, HVl.out, ← HL.out]
  have S1 : Hid (∀ w' x xc xs, OwI w' xc x xs → True) := fun _ _ _ _ _ => trivial
  have hsm := same_any oa va oc vc V V w9 HO69.out.rowN.1 (ZV.out _ HZ9.out).rowN.1 (by have := HVl.out; omega)
  rw [HVl.out, decide_eq_true rfl] at hsm
  go_wp2_with fail
  refine hsm.mono ?_
  rintro e wa ⟨rfl, ba⟩
  clear hsm
  have HZa := hide_it (ZB.out _ _ HZ9.out ba)
  have HO1a := hide_it (HO69.out.below ba)
  have HO2a := hide_it (HO79.out.below ba)
  have HBa := hide_it (HBW9.out.trans (ba.mono HBW9.out.size))
  have hza := ba.size
  clear ba
  have hsm := same_any ta va tc vc V V wa HO2a.out.rowN.1 (ZV.out _ HZa.out).rowN.1 (by have := HVl.out; omega)
  rw [HVl.out, decide_eq_true rfl] at hsm
  go_wp2_with fail
  refine hsm.mono ?_
  rintro e wb ⟨rfl, bb⟩
  clear hsm
  have HZb := hide_it (ZB.out _ _ HZa.out bb)
  have HO1b := hide_it (HO1a.out.below bb)
  have HO2b := hide_it (HO2a.out.below bb)
  have HBb := hide_it (HBa.out.trans (bb.mono HBa.out.size))
  have hzb := bb.size
  clear bb HZa HO1a HO2a HBa
  have hsm := same_any la fa lc fc (plusM ps (-77) 80) (plusM ps (-77) 80) wb (ZL.out _ HZb.out).rowN.1 (ZF.out _ HZb.out).rowN.1 (by have := HL.out; rw [plusM_len]; omega)
  rw [plusM_len, ← HL.out, decide_eq_true rfl] at hsm
  go_wp2_with fail
  refine hsm.mono ?_
  rintro e wc ⟨rfl, bc⟩
  clear hsm
  have HZc := hide_it (ZB.out _ _ HZb.out bc)
  have HO1c := hide_it (HO1b.out.below bc)
  have HO2c := hide_it (HO2b.out.below bc)
  have HBc := hide_it (HBb.out.trans (bc.mono HBb.out.size))
  have hzc := bc.size
  clear bc HZb HO1b HO2b HBb HZ9 HO69 HO79 HBW9 S1
  go_wp2_with fail
  go_loopw [73] (fun i wr => ∃ k : Nat, k ≤ n ∧ i = .int .i64 k ∧ Z wr ∧ OwI wr w5.heap.size (.slice oa n oc) (fillM V (-5) k) ∧ OwI wr w6.heap.size (.slice ta n tc) V ∧ Below w.heap.size w wr) (fun i _ => n - (intOf i).toNat)
  case atStart => exact ⟨0, by omega, rfl, HZc.out, by rw [fillM_zero]; exact HO1c.out, HO2c.out, HBc.out⟩
  case round =>
    clear HZc HO1c HO2c HBc
    obtain ⟨k, hk, rfl, hZ, h1, h2, hB⟩ := hrel
    by_cases hlt : k < n
    · have hki : (k : Int) < (n : Int) := by omega
      have hkc : (k : Int) < (oc : Int) := by omega
      have hw1 : IntKind.i64.wrap ((k : Int) + 1) = (k : Int) + 1 := i64_in (by omega) (by omega)
      have hfl : (fillM V (-5) k).length = n := by rw [fillM_len (by have := HVl.out; omega), HVl.out]
      obtain ⟨g, o, rfl, hg1, hg2, hgc, hgf⟩ := h1.at_ (by omega)
      have c0 := hgc k (by omega)
      have f0 := hgf (o + k)
      have hin := HI6.out g rfl
      have H1 := hide_it (fill_step h1 HVl.out hlt)
      have hch : Chg (fun j => j = g) wr (wr.setCell ⟨g, o + k, none⟩ (.int .i64 (-5))) := (Chg.refl _ _).setCell _ _ (fun _ => rfl)
      have H2 := hide_it (h2.chg hch (fun j hj e => by have := HI7.out j hj; omega))
      have HZ2 := hide_it (ZS.out _ _ _ hZ hch (fun j hj => by omega))
      have HB2 := hide_it (hB.trans (hch.below (B := w.heap.size) (fun j hj => by omega) hB.size))
      clear h1 h2 hZ hB hgc hgf hch
      go_wp2
      go_roundw
      case rel => exact ⟨k + 1, by omega, by go_num, HZ2.out, H1.out, H2.out, HB2.out⟩
      case measure => simp [intOf]; omega
    · obtain rfl : k = n := by omega
      have H1 : Hid (OwI wr w5.heap.size (.slice oa k oc) (List.replicate k (-5))) := by
        have h9 := fillM_all (xs := V) (m := -5)
        rw [HVl.out] at h9
        rw [h9] at h1; exact hide_it h1
      have H2 := hide_it h2
      have HZc := hide_it hZ
      have HBc := hide_it hB
      clear h1 h2 hZ hB hlt
      go_wp2_with fail
      go_loopw [82] (fun i wr => ∃ q : Nat, q ≤ k ∧ i = .int .i64 q ∧ Z wr ∧ OwI wr w5.heap.size (.slice oa k oc) (List.replicate k (-5)) ∧ OwI wr w6.heap.size (.slice ta k tc) (fillM V (-6) q) ∧ Below w.heap.size w wr) (fun i _ => k - (intOf i).toNat)
      case atStart => exact ⟨0, by omega, rfl, HZc.out, H1.out, by rw [fillM_zero]; exact H2.out, HBc.out⟩
      case round =>
        clear HZc H1 H2 HBc
        obtain ⟨q, hq, rfl, hZ, h1, h2, hB⟩ := hrel
        by_cases hlt : q < k
        · have hki : (q : Int) < (k : Int) := by omega
          have hkc : (q : Int) < (tc : Int) := by omega
          have hw1 : IntKind.i64.wrap ((q : Int) + 1) = (q : Int) + 1 := i64_in (by omega) (by omega)
          have hfl : (fillM V (-6) q).length = k := by rw [fillM_len (by have := HVl.out; omega), HVl.out]
          obtain ⟨g, o, rfl, hg1, hg2, hgc, hgf⟩ := h2.at_ (by omega)
          have c0 := hgc q (by omega)
          have f0 := hgf (o + q)
          have hin := HI7.out g rfl
          have H2 := hide_it (fill_step h2 HVl.out hlt)
          have hch : Chg (fun j => j = g) wr (wr.setCell ⟨g, o + q, none⟩ (.int .i64 (-6))) := (Chg.refl _ _).setCell _ _ (fun _ => rfl)
          have H1 := hide_it (h1.chg hch (fun j hj e => by have := HI6.out j hj; omega))
          have HZ2 := hide_it (ZS.out _ _ _ hZ hch (fun j hj => by omega))
          have HB2 := hide_it (hB.trans (hch.below (B := w.heap.size) (fun j hj => by omega) hB.size))
          clear h1 h2 hZ hB hgc hgf hch
          go_wp2
          go_roundw
          case rel => exact ⟨q + 1, by omega, by go_num, HZ2.out, H1.out, H2.out, HB2.out⟩
          case measure => simp [intOf]; omega
        · obtain rfl : q = k := by omega
          have H2 : Hid (OwI wr w6.heap.size (.slice ta q tc) (List.replicate q (-6))) := by
            have h9 := fillM_all (xs := V) (m := -6)
            rw [HVl.out] at h9
            rw [h9] at h2; exact hide_it h2
          have HZd := hide_it hZ
          have HBd := hide_it hB
          have hsz : w9.heap.size ≤ wr.heap.size := hsZ.out _ hZ
          have hgr := grown_any (.slice oa q oc) (List.replicate q (-5)) (-55) w5.heap.size wr h1 (by omega) (by simp; omega)
          clear h1 h2 hZ hB hlt
          go_wp2_with fail
          refine hgr.mono ?_
          rintro e we ⟨⟨r1, rfl, o1, at1⟩, c1⟩
          clear hgr
          have hze := c1.size
          have HZe := hide_it (ZS.out _ _ _ HZd.out c1 (fun j hj => by have := HI6.out j hj; omega))
          have HBe := hide_it (HBd.out.trans (c1.below (B := w.heap.size) (fun j hj => by have := HI6.out j hj; omega) HBd.out.size))
          have h2e := H2.out.chg c1 (fun j hj e => by have := HI6.out j e; have := HI7.out j hj; omega)
          have hgr := grown_any (.slice ta q tc) (List.replicate q (-6)) (-66) w6.heap.size we h2e (by omega) (by simp; omega)
          have HO1 := hide_it o1
          have HA1 : Hid (∀ j, r1.ownBlock = some j → ¬ (w6.heap.size ≤ j ∧ j < w7.heap.size)) := fun j hj => by
            rcases at1 with e | e
            · have := HI6.out j (e ▸ hj); omega
            · have := e j hj; omega
          clear c1 o1 at1 h2e
          go_wp2_with fail
          refine hgr.mono ?_
          rintro e wf ⟨⟨r2, rfl, o2, at2⟩, c2⟩
          clear hgr
          have hzf := c2.size
          have HZf := hide_it (ZS.out _ _ _ HZe.out c2 (fun j hj => by have := HI7.out j hj; omega))
          have HBf := hide_it (HBe.out.trans (c2.below (B := w.heap.size) (fun j hj => by have := HI7.out j hj; omega) HBe.out.size))
          have HO1f := hide_it (HO1.out.chg c2 (fun j hj e => HA1.out j hj (HI7.out j e)))
          have HO2f := hide_it o2
          clear c2 o2 at2 HZd HBd HZe HBe HO1 H2 HA1
          obtain ⟨wa2, wc2, rfl, _, hwc⟩ := rowP_own (ZW.out _ HZf.out)
          go_wp2_with fail
          go_loopw [95] (fun i wr => ∃ k : Nat, k ≤ q ∧ i = .int .i64 k ∧ Below wf.heap.size wf wr) (fun i _ => q - (intOf i).toNat)
          case atStart => exact ⟨0, by omega, rfl, Below.refl _ _⟩
          case round =>
            obtain ⟨k, hk, rfl, hbf⟩ := hrel
            have hZr := ZB.out _ _ HZf.out hbf
            by_cases hlt : k < q
            · have hki : (k : Int) < (q : Int) := by omega
              have hk1 : (k : Int) < (ca : Int) := by omega
              have hk2 : (k : Int) < (kc : Int) := by omega
              have hk3 : (k : Int) < (wc2 : Int) := by omega
              have hw1 : IntKind.i64.wrap ((k : Int) + 1) = (k : Int) + 1 := i64_in (by omega) (by omega)
              have hcl := ZC.out _ hZr
              obtain ⟨_, _, ep, hrp, _, _⟩ := hcl.rowP
              cases ep
              obtain ⟨_, _, ep, hrk, _⟩ := hcl.rowK
              cases ep
              obtain ⟨_, _, ep, hrw, _⟩ := rowP_own (ZW.out _ hZr)
              cases ep
              obtain ⟨bp, op, rfl, lp, dp⟩ := hrp.here hlt
              obtain ⟨bk, ok, rfl, lk, k0, k1, k2⟩ := hrk.here hlt
              obtain ⟨bw, ow, rfl, lw, dw⟩ := hrw.here hlt
              have p0 := dp k hlt
              have p1 := dw k hlt
              have Hok := hide_it (hcl.ok k hlt)
              have Hpk := hide_it (hcl.pk k hlt)
              have HBF := hide_it hbf
              clear hcl hrp hrk hrw dp dw hbf hZr
              generalize mkC A k = cc at *
              generalize P k = pp at *
              have hy0 := (Below.refl wr.heap.size wr).drew
              have hr1 := rnow_any cc
              unfold valK at hr1
              have hee : (cc.n == cc.n) = true := by simp
              cases ht : cc.t
              all_goals
                have hn1 := fun z (hz : Below wr.heap.size wr z) => now_any cc Hok.out pp z (Hpk.out.below hz)
                unfold ptrK at p0 p1 hn1
                rw [ht] at p0 p1 k0
                simp only [ht] at hn1 hr1
                clear ht
                go_wp2_with fail
                refine wp_region_held_drew (S := (fun w' => w'.heap[bp]? = wr.heap[bp]? ∧ w'.heap[bk]? = wr.heap[bk]? ∧ w'.heap[bw]? = wr.heap[bw]?)) (by kernel_rfl) ?_ (fun hHeld => ?_)
                · exact ⟨rfl, rfl, rfl⟩
                refine take_on (i := 0) (v := ?_) rfl rfl (by kernel_rfl) (by kernel_rfl) (by kernel_rfl) (fun _ _ _ h => h) rfl ?_ hHeld ?_
                rotate_left
                · (intro wq hSq; have s0 := (World.cell?_of_block (w := wr) (a := ⟨bp, op + k, none⟩) hSq.1).trans p0; have s1 := (World.cell?_of_block (w := wr) (a := ⟨bk, ok + k * 3, none⟩) hSq.2.1).trans k0; have s2 := (World.cell?_of_block (w := wr) (a := ⟨bk, ok + k * 3 + 1, none⟩) hSq.2.1).trans k1; have s3 := (World.cell?_of_block (w := wr) (a := ⟨bk, ok + k * 3 + 2, none⟩) hSq.2.1).trans k2; have s4 := (World.cell?_of_block (w := wr) (a := ⟨bw, ow + k, none⟩) hSq.2.2).trans p1; go_simp <;> first | with_reducible rfl | rfl)
                simp only [Act.put, List.setIfInBounds_toArray, List.set_cons_zero, List.set_cons_succ]
                refine take_on (i := 1) (v := ?_) rfl rfl (by kernel_rfl) (by kernel_rfl) (by kernel_rfl) (fun _ _ _ h => h) rfl ?_ hHeld ?_
                rotate_left
                · (intro wq hSq; have s0 := (World.cell?_of_block (w := wr) (a := ⟨bp, op + k, none⟩) hSq.1).trans p0; have s1 := (World.cell?_of_block (w := wr) (a := ⟨bk, ok + k * 3, none⟩) hSq.2.1).trans k0; have s2 := (World.cell?_of_block (w := wr) (a := ⟨bk, ok + k * 3 + 1, none⟩) hSq.2.1).trans k1; have s3 := (World.cell?_of_block (w := wr) (a := ⟨bk, ok + k * 3 + 2, none⟩) hSq.2.1).trans k2; have s4 := (World.cell?_of_block (w := wr) (a := ⟨bw, ow + k, none⟩) hSq.2.2).trans p1; go_simp <;> first | with_reducible rfl | rfl)
                simp only [Act.put, List.setIfInBounds_toArray, List.set_cons_zero, List.set_cons_succ]
                refine take_on (i := 2) (v := ?_) rfl rfl (by kernel_rfl) (by kernel_rfl) (by kernel_rfl) (fun _ _ _ h => h) rfl ?_ hHeld ?_
                rotate_left
                · (intro wq hSq; have s0 := (World.cell?_of_block (w := wr) (a := ⟨bp, op + k, none⟩) hSq.1).trans p0; have s1 := (World.cell?_of_block (w := wr) (a := ⟨bk, ok + k * 3, none⟩) hSq.2.1).trans k0; have s2 := (World.cell?_of_block (w := wr) (a := ⟨bk, ok + k * 3 + 1, none⟩) hSq.2.1).trans k1; have s3 := (World.cell?_of_block (w := wr) (a := ⟨bk, ok + k * 3 + 2, none⟩) hSq.2.1).trans k2; have s4 := (World.cell?_of_block (w := wr) (a := ⟨bw, ow + k, none⟩) hSq.2.2).trans p1; go_simp <;> first | with_reducible rfl | rfl)
                simp only [Act.put, List.setIfInBounds_toArray, List.set_cons_zero, List.set_cons_succ]
                refine take_on (i := 3) (v := ?_) rfl rfl (by kernel_rfl) (by kernel_rfl) (by kernel_rfl) (fun _ _ _ h => h) rfl ?_ hHeld ?_
                rotate_left
                · (intro wq hSq; have s0 := (World.cell?_of_block (w := wr) (a := ⟨bp, op + k, none⟩) hSq.1).trans p0; have s1 := (World.cell?_of_block (w := wr) (a := ⟨bk, ok + k * 3, none⟩) hSq.2.1).trans k0; have s2 := (World.cell?_of_block (w := wr) (a := ⟨bk, ok + k * 3 + 1, none⟩) hSq.2.1).trans k1; have s3 := (World.cell?_of_block (w := wr) (a := ⟨bk, ok + k * 3 + 2, none⟩) hSq.2.1).trans k2; have s4 := (World.cell?_of_block (w := wr) (a := ⟨bw, ow + k, none⟩) hSq.2.2).trans p1; go_simp <;> first | with_reducible rfl | rfl)
                simp only [Act.put, List.setIfInBounds_toArray, List.set_cons_zero, List.set_cons_succ]
                refine take_on (i := 5) (v := ?_) rfl rfl (by kernel_rfl) (by kernel_rfl) (by kernel_rfl) (fun _ _ _ h => h) rfl ?_ hHeld ?_
                rotate_left
                · (intro wq hSq; have s0 := (World.cell?_of_block (w := wr) (a := ⟨bp, op + k, none⟩) hSq.1).trans p0; have s1 := (World.cell?_of_block (w := wr) (a := ⟨bk, ok + k * 3, none⟩) hSq.2.1).trans k0; have s2 := (World.cell?_of_block (w := wr) (a := ⟨bk, ok + k * 3 + 1, none⟩) hSq.2.1).trans k1; have s3 := (World.cell?_of_block (w := wr) (a := ⟨bk, ok + k * 3 + 2, none⟩) hSq.2.1).trans k2; have s4 := (World.cell?_of_block (w := wr) (a := ⟨bw, ow + k, none⟩) hSq.2.2).trans p1; go_simp <;> first | with_reducible rfl | rfl)
                simp only [Act.put, List.setIfInBounds_toArray, List.set_cons_zero, List.set_cons_succ]
                refine take_on (i := 6) (v := ?_) rfl rfl (by kernel_rfl) (by kernel_rfl) (by kernel_rfl) (fun _ _ _ h => h) rfl ?_ hHeld ?_
                rotate_left
                · (intro wq hSq; have s0 := (World.cell?_of_block (w := wr) (a := ⟨bp, op + k, none⟩) hSq.1).trans p0; have s1 := (World.cell?_of_block (w := wr) (a := ⟨bk, ok + k * 3, none⟩) hSq.2.1).trans k0; have s2 := (World.cell?_of_block (w := wr) (a := ⟨bk, ok + k * 3 + 1, none⟩) hSq.2.1).trans k1; have s3 := (World.cell?_of_block (w := wr) (a := ⟨bk, ok + k * 3 + 2, none⟩) hSq.2.1).trans k2; have s4 := (World.cell?_of_block (w := wr) (a := ⟨bw, ow + k, none⟩) hSq.2.2).trans p1; go_simp <;> first | with_reducible rfl | rfl)
                simp only [Act.put, List.setIfInBounds_toArray, List.set_cons_zero, List.set_cons_succ]
                refine take_on (i := 7) (v := ?_) rfl rfl (by kernel_rfl) (by kernel_rfl) (by kernel_rfl) (fun _ _ _ h => h) rfl ?_ hHeld ?_
                rotate_left
                · (intro wq hSq; have s0 := (World.cell?_of_block (w := wr) (a := ⟨bp, op + k, none⟩) hSq.1).trans p0; have s1 := (World.cell?_of_block (w := wr) (a := ⟨bk, ok + k * 3, none⟩) hSq.2.1).trans k0; have s2 := (World.cell?_of_block (w := wr) (a := ⟨bk, ok + k * 3 + 1, none⟩) hSq.2.1).trans k1; have s3 := (World.cell?_of_block (w := wr) (a := ⟨bk, ok + k * 3 + 2, none⟩) hSq.2.1).trans k2; have s4 := (World.cell?_of_block (w := wr) (a := ⟨bw, ow + k, none⟩) hSq.2.2).trans p1; go_simp <;> first | with_reducible rfl | rfl)
                simp only [Act.put, List.setIfInBounds_toArray, List.set_cons_zero, List.set_cons_succ]
                refine take_on (i := 8) (v := ?_) rfl rfl (by kernel_rfl) (by kernel_rfl) (by kernel_rfl) (fun _ _ _ h => h) rfl ?_ hHeld ?_
                rotate_left
                · (intro wq hSq; have s0 := (World.cell?_of_block (w := wr) (a := ⟨bp, op + k, none⟩) hSq.1).trans p0; have s1 := (World.cell?_of_block (w := wr) (a := ⟨bk, ok + k * 3, none⟩) hSq.2.1).trans k0; have s2 := (World.cell?_of_block (w := wr) (a := ⟨bk, ok + k * 3 + 1, none⟩) hSq.2.1).trans k1; have s3 := (World.cell?_of_block (w := wr) (a := ⟨bk, ok + k * 3 + 2, none⟩) hSq.2.1).trans k2; have s4 := (World.cell?_of_block (w := wr) (a := ⟨bw, ow + k, none⟩) hSq.2.2).trans p1; go_simp <;> first | with_reducible rfl | rfl)
                simp only [Act.put, List.setIfInBounds_toArray, List.set_cons_zero, List.set_cons_succ]
                refine take_one (i := 4) rfl (by kernel_rfl) (fun K hK => ?_)
                go_simp
                (refine (hn1 _ hy0).mono ?_; rintro e z1 ⟨rfl, rfl⟩)
                try go_wp2_with fail
                refine hK.out _ _ ?_ (fun hHeld => ?_)
                · exact ⟨rfl, rfl, rfl⟩
                clear hK K
                try simp only [Act.put, List.setIfInBounds_toArray, List.set_cons_zero, List.set_cons_succ]
                refine take_one (i := 9) rfl (by kernel_rfl) (fun K hK => ?_)
                go_simp
                (refine (hr1 _).mono ?_; rintro e z2 ⟨rfl, hz2⟩; have hy2 := hy0.trans (hz2.mono (by have := hy0.size; omega)))
                try go_wp2_with fail
                refine hK.out _ _ ?_ (fun hHeld => ?_)
                · exact ⟨hy2.block _ lp, hy2.block _ lk, hy2.block _ lw⟩
                clear hK K
                try simp only [Act.put, List.setIfInBounds_toArray, List.set_cons_zero, List.set_cons_succ]
                refine take_on (i := 10) (v := ?_) rfl rfl (by kernel_rfl) (by kernel_rfl) (by kernel_rfl) (fun _ _ _ h => h) rfl ?_ hHeld ?_
                rotate_left
                · (intro wq hSq; have s0 := (World.cell?_of_block (w := wr) (a := ⟨bp, op + k, none⟩) hSq.1).trans p0; have s1 := (World.cell?_of_block (w := wr) (a := ⟨bk, ok + k * 3, none⟩) hSq.2.1).trans k0; have s2 := (World.cell?_of_block (w := wr) (a := ⟨bk, ok + k * 3 + 1, none⟩) hSq.2.1).trans k1; have s3 := (World.cell?_of_block (w := wr) (a := ⟨bk, ok + k * 3 + 2, none⟩) hSq.2.1).trans k2; have s4 := (World.cell?_of_block (w := wr) (a := ⟨bw, ow + k, none⟩) hSq.2.2).trans p1; go_simp <;> first | with_reducible rfl | rfl)
                simp only [Act.put, List.setIfInBounds_toArray, List.set_cons_zero, List.set_cons_succ]
                refine take_on (i := 11) (v := ?_) rfl rfl (by kernel_rfl) (by kernel_rfl) (by kernel_rfl) (fun _ _ _ h => h) rfl ?_ hHeld ?_
                rotate_left
                · (intro wq hSq; have s0 := (World.cell?_of_block (w := wr) (a := ⟨bp, op + k, none⟩) hSq.1).trans p0; have s1 := (World.cell?_of_block (w := wr) (a := ⟨bk, ok + k * 3, none⟩) hSq.2.1).trans k0; have s2 := (World.cell?_of_block (w := wr) (a := ⟨bk, ok + k * 3 + 1, none⟩) hSq.2.1).trans k1; have s3 := (World.cell?_of_block (w := wr) (a := ⟨bk, ok + k * 3 + 2, none⟩) hSq.2.1).trans k2; have s4 := (World.cell?_of_block (w := wr) (a := ⟨bw, ow + k, none⟩) hSq.2.2).trans p1; go_simp <;> first | with_reducible rfl | rfl)
                simp only [Act.put, List.setIfInBounds_toArray, List.set_cons_zero, List.set_cons_succ]
                refine take_on (i := 12) (v := ?_) rfl rfl (by kernel_rfl) (by kernel_rfl) (by kernel_rfl) (fun _ _ _ h => h) rfl ?_ hHeld ?_
                rotate_left
                · (intro wq hSq; have s0 := (World.cell?_of_block (w := wr) (a := ⟨bp, op + k, none⟩) hSq.1).trans p0; have s1 := (World.cell?_of_block (w := wr) (a := ⟨bk, ok + k * 3, none⟩) hSq.2.1).trans k0; have s2 := (World.cell?_of_block (w := wr) (a := ⟨bk, ok + k * 3 + 1, none⟩) hSq.2.1).trans k1; have s3 := (World.cell?_of_block (w := wr) (a := ⟨bk, ok + k * 3 + 2, none⟩) hSq.2.1).trans k2; have s4 := (World.cell?_of_block (w := wr) (a := ⟨bw, ow + k, none⟩) hSq.2.2).trans p1; go_simp <;> first | with_reducible rfl | rfl)
                simp only [Act.put, List.setIfInBounds_toArray, List.set_cons_zero, List.set_cons_succ]
                refine take_on (i := 13) (v := ?_) rfl rfl (by kernel_rfl) (by kernel_rfl) (by kernel_rfl) (fun _ _ _ h => h) rfl ?_ hHeld ?_
                rotate_left
                · (intro wq hSq; have s0 := (World.cell?_of_block (w := wr) (a := ⟨bp, op + k, none⟩) hSq.1).trans p0; have s1 := (World.cell?_of_block (w := wr) (a := ⟨bk, ok + k * 3, none⟩) hSq.2.1).trans k0; have s2 := (World.cell?_of_block (w := wr) (a := ⟨bk, ok + k * 3 + 1, none⟩) hSq.2.1).trans k1; have s3 := (World.cell?_of_block (w := wr) (a := ⟨bk, ok + k * 3 + 2, none⟩) hSq.2.1).trans k2; have s4 := (World.cell?_of_block (w := wr) (a := ⟨bw, ow + k, none⟩) hSq.2.2).trans p1; go_simp <;> first | with_reducible rfl | rfl)
                simp only [Act.put, List.setIfInBounds_toArray, List.set_cons_zero, List.set_cons_succ]
                refine take_on (i := 14) (v := ?_) rfl rfl (by kernel_rfl) (by kernel_rfl) (by kernel_rfl) (fun _ _ _ h => h) rfl ?_ hHeld ?_
                rotate_left
                · (intro wq hSq; have s0 := (World.cell?_of_block (w := wr) (a := ⟨bp, op + k, none⟩) hSq.1).trans p0; have s1 := (World.cell?_of_block (w := wr) (a := ⟨bk, ok + k * 3, none⟩) hSq.2.1).trans k0; have s2 := (World.cell?_of_block (w := wr) (a := ⟨bk, ok + k * 3 + 1, none⟩) hSq.2.1).trans k1; have s3 := (World.cell?_of_block (w := wr) (a := ⟨bk, ok + k * 3 + 2, none⟩) hSq.2.1).trans k2; have s4 := (World.cell?_of_block (w := wr) (a := ⟨bw, ow + k, none⟩) hSq.2.2).trans p1; go_simp <;> first | with_reducible rfl | rfl)
                simp only [Act.put, List.setIfInBounds_toArray, List.set_cons_zero, List.set_cons_succ]
                refine take_on (i := 15) (v := ?_) rfl rfl (by kernel_rfl) (by kernel_rfl) (by kernel_rfl) (fun _ _ _ h => h) rfl ?_ hHeld ?_
                rotate_left
                · (intro wq hSq; have s0 := (World.cell?_of_block (w := wr) (a := ⟨bp, op + k, none⟩) hSq.1).trans p0; have s1 := (World.cell?_of_block (w := wr) (a := ⟨bk, ok + k * 3, none⟩) hSq.2.1).trans k0; have s2 := (World.cell?_of_block (w := wr) (a := ⟨bk, ok + k * 3 + 1, none⟩) hSq.2.1).trans k1; have s3 := (World.cell?_of_block (w := wr) (a := ⟨bk, ok + k * 3 + 2, none⟩) hSq.2.1).trans k2; have s4 := (World.cell?_of_block (w := wr) (a := ⟨bw, ow + k, none⟩) hSq.2.2).trans p1; go_simp <;> first | with_reducible rfl | rfl)
                simp only [Act.put, List.setIfInBounds_toArray, List.set_cons_zero, List.set_cons_succ]
                refine take_on (i := 16) (v := ?_) rfl rfl (by kernel_rfl) (by kernel_rfl) (by kernel_rfl) (fun _ _ _ h => h) rfl ?_ hHeld ?_
                rotate_left
                · (intro wq hSq; have s0 := (World.cell?_of_block (w := wr) (a := ⟨bp, op + k, none⟩) hSq.1).trans p0; have s1 := (World.cell?_of_block (w := wr) (a := ⟨bk, ok + k * 3, none⟩) hSq.2.1).trans k0; have s2 := (World.cell?_of_block (w := wr) (a := ⟨bk, ok + k * 3 + 1, none⟩) hSq.2.1).trans k1; have s3 := (World.cell?_of_block (w := wr) (a := ⟨bk, ok + k * 3 + 2, none⟩) hSq.2.1).trans k2; have s4 := (World.cell?_of_block (w := wr) (a := ⟨bw, ow + k, none⟩) hSq.2.2).trans p1; go_simp <;> first | with_reducible rfl | rfl)
                simp only [Act.put, List.setIfInBounds_toArray, List.set_cons_zero, List.set_cons_succ]
                refine take_on (i := 17) (v := ?_) rfl rfl (by kernel_rfl) (by kernel_rfl) (by kernel_rfl) (fun _ _ _ h => h) rfl ?_ hHeld ?_
                rotate_left
                · (intro wq hSq; have s0 := (World.cell?_of_block (w := wr) (a := ⟨bp, op + k, none⟩) hSq.1).trans p0; have s1 := (World.cell?_of_block (w := wr) (a := ⟨bk, ok + k * 3, none⟩) hSq.2.1).trans k0; have s2 := (World.cell?_of_block (w := wr) (a := ⟨bk, ok + k * 3 + 1, none⟩) hSq.2.1).trans k1; have s3 := (World.cell?_of_block (w := wr) (a := ⟨bk, ok + k * 3 + 2, none⟩) hSq.2.1).trans k2; have s4 := (World.cell?_of_block (w := wr) (a := ⟨bw, ow + k, none⟩) hSq.2.2).trans p1; go_simp <;> first | with_reducible rfl | rfl)
                simp only [Act.put, List.setIfInBounds_toArray, List.set_cons_zero, List.set_cons_succ]
                refine take_on (i := 18) (v := ?_) rfl rfl (by kernel_rfl) (by kernel_rfl) (by kernel_rfl) (fun _ _ _ h => h) rfl ?_ hHeld ?_
                rotate_left
                · (intro wq hSq; have s0 := (World.cell?_of_block (w := wr) (a := ⟨bp, op + k, none⟩) hSq.1).trans p0; have s1 := (World.cell?_of_block (w := wr) (a := ⟨bk, ok + k * 3, none⟩) hSq.2.1).trans k0; have s2 := (World.cell?_of_block (w := wr) (a := ⟨bk, ok + k * 3 + 1, none⟩) hSq.2.1).trans k1; have s3 := (World.cell?_of_block (w := wr) (a := ⟨bk, ok + k * 3 + 2, none⟩) hSq.2.1).trans k2; have s4 := (World.cell?_of_block (w := wr) (a := ⟨bw, ow + k, none⟩) hSq.2.2).trans p1; go_simp <;> first | with_reducible rfl | rfl)
                simp only [Act.put, List.setIfInBounds_toArray, List.set_cons_zero, List.set_cons_succ]
                refine take_on (i := 19) (v := ?_) rfl rfl (by kernel_rfl) (by kernel_rfl) (by kernel_rfl) (fun _ _ _ h => h) rfl ?_ hHeld ?_
                rotate_left
                · (intro wq hSq; have s0 := (World.cell?_of_block (w := wr) (a := ⟨bp, op + k, none⟩) hSq.1).trans p0; have s1 := (World.cell?_of_block (w := wr) (a := ⟨bk, ok + k * 3, none⟩) hSq.2.1).trans k0; have s2 := (World.cell?_of_block (w := wr) (a := ⟨bk, ok + k * 3 + 1, none⟩) hSq.2.1).trans k1; have s3 := (World.cell?_of_block (w := wr) (a := ⟨bk, ok + k * 3 + 2, none⟩) hSq.2.1).trans k2; have s4 := (World.cell?_of_block (w := wr) (a := ⟨bw, ow + k, none⟩) hSq.2.2).trans p1; go_simp <;> first | with_reducible rfl | rfl)
                simp only [Act.put, List.setIfInBounds_toArray, List.set_cons_zero, List.set_cons_succ]
                refine take_on (i := 20) (v := ?_) rfl rfl (by kernel_rfl) (by kernel_rfl) (by kernel_rfl) (fun _ _ _ h => h) rfl ?_ hHeld ?_
                rotate_left
                · (intro wq hSq; have s0 := (World.cell?_of_block (w := wr) (a := ⟨bp, op + k, none⟩) hSq.1).trans p0; have s1 := (World.cell?_of_block (w := wr) (a := ⟨bk, ok + k * 3, none⟩) hSq.2.1).trans k0; have s2 := (World.cell?_of_block (w := wr) (a := ⟨bk, ok + k * 3 + 1, none⟩) hSq.2.1).trans k1; have s3 := (World.cell?_of_block (w := wr) (a := ⟨bk, ok + k * 3 + 2, none⟩) hSq.2.1).trans k2; have s4 := (World.cell?_of_block (w := wr) (a := ⟨bw, ow + k, none⟩) hSq.2.2).trans p1; go_simp <;> first | with_reducible rfl | rfl)
                simp only [Act.put, List.setIfInBounds_toArray, List.set_cons_zero, List.set_cons_succ]
                refine take_on (i := 21) (v := ?_) rfl rfl (by kernel_rfl) (by kernel_rfl) (by kernel_rfl) (fun _ _ _ h => h) rfl ?_ hHeld ?_
                rotate_left
                · (intro wq hSq; have s0 := (World.cell?_of_block (w := wr) (a := ⟨bp, op + k, none⟩) hSq.1).trans p0; have s1 := (World.cell?_of_block (w := wr) (a := ⟨bk, ok + k * 3, none⟩) hSq.2.1).trans k0; have s2 := (World.cell?_of_block (w := wr) (a := ⟨bk, ok + k * 3 + 1, none⟩) hSq.2.1).trans k1; have s3 := (World.cell?_of_block (w := wr) (a := ⟨bk, ok + k * 3 + 2, none⟩) hSq.2.1).trans k2; have s4 := (World.cell?_of_block (w := wr) (a := ⟨bw, ow + k, none⟩) hSq.2.2).trans p1; go_simp <;> first | with_reducible rfl | rfl)
                simp only [Act.put, List.setIfInBounds_toArray, List.set_cons_zero, List.set_cons_succ]
                refine take_on (i := 22) (v := ?_) rfl rfl (by kernel_rfl) (by kernel_rfl) (by kernel_rfl) (fun _ _ _ h => h) rfl ?_ hHeld ?_
                rotate_left
                · (intro wq hSq; have s0 := (World.cell?_of_block (w := wr) (a := ⟨bp, op + k, none⟩) hSq.1).trans p0; have s1 := (World.cell?_of_block (w := wr) (a := ⟨bk, ok + k * 3, none⟩) hSq.2.1).trans k0; have s2 := (World.cell?_of_block (w := wr) (a := ⟨bk, ok + k * 3 + 1, none⟩) hSq.2.1).trans k1; have s3 := (World.cell?_of_block (w := wr) (a := ⟨bk, ok + k * 3 + 2, none⟩) hSq.2.1).trans k2; have s4 := (World.cell?_of_block (w := wr) (a := ⟨bw, ow + k, none⟩) hSq.2.2).trans p1; go_simp <;> first | with_reducible rfl | rfl)
                simp only [Act.put, List.setIfInBounds_toArray, List.set_cons_zero, List.set_cons_succ]
                refine take_on (i := 23) (v := ?_) rfl rfl (by kernel_rfl) (by kernel_rfl) (by kernel_rfl) (fun _ _ _ h => h) rfl ?_ hHeld ?_
                rotate_left
                · (intro wq hSq; have s0 := (World.cell?_of_block (w := wr) (a := ⟨bp, op + k, none⟩) hSq.1).trans p0; have s1 := (World.cell?_of_block (w := wr) (a := ⟨bk, ok + k * 3, none⟩) hSq.2.1).trans k0; have s2 := (World.cell?_of_block (w := wr) (a := ⟨bk, ok + k * 3 + 1, none⟩) hSq.2.1).trans k1; have s3 := (World.cell?_of_block (w := wr) (a := ⟨bk, ok + k * 3 + 2, none⟩) hSq.2.1).trans k2; have s4 := (World.cell?_of_block (w := wr) (a := ⟨bw, ow + k, none⟩) hSq.2.2).trans p1; go_simp <;> first | with_reducible rfl | rfl)
                simp only [Act.put, List.setIfInBounds_toArray, List.set_cons_zero, List.set_cons_succ]
                refine wpAnyH_done (by kernel_rfl) ?_ _
                have HY := hide_it (HBF.out.trans (hy2.mono HBF.out.size))
                clear hy0 hy2 hz2 hn1 hr1 p0 p1 k0 k1 k2
                go_wp2
                go_roundw
                case rel => exact ⟨k + 1, by omega, by go_num, HY.out⟩
                case measure => simp [intOf]; omega
            · obtain rfl : k = q := by omega
              have hcl := ZC.out _ hZr
              obtain ⟨_, _, ep, hpa, _, _⟩ := hcl.rowP
              cases ep
              have htk := take_any pa k ca (mkC A) P la lc ps wr hpa hcl.pk hcl.ok (ZL.out _ hZr).rowN.1.beg (by omega) (by have := HL.out; omega)
              rw [← HL.out, ← HV.out] at htk
              have HZr := hide_it hZr
              have HO1r := hide_it (HO1f.out.below hbf)
              have HO2r := hide_it (HO2f.out.below hbf)
              have HBr := hide_it (HBf.out.trans (hbf.mono HBf.out.size))
              clear hpa hcl hZr hbf HO1f HO2f HZf HBf hlt
              go_wp2_with fail
              refine htk.mono ?_
              rintro e wg ⟨⟨r3, rfl, o3⟩, b3⟩
              clear htk
              obtain ⟨ga, gc, rfl, _, _, _, _⟩ := o3.row
              rw [HVl.out] at o3 ⊢
              have hZg := ZB.out _ _ HZr.out b3
              have hsm := same_any ga va gc vc V V wg o3.rowN.1 (ZV.out _ hZg).rowN.1 (by have := HVl.out; omega)
              rw [HVl.out, decide_eq_true rfl] at hsm
              have HZg := hide_it hZg
              have HO1g := hide_it (HO1r.out.below b3)
              have HO2g := hide_it (HO2r.out.below b3)
              have HBg := hide_it (HBr.out.trans (b3.mono HBr.out.size))
              clear o3 b3 hZg HZr HO1r HO2r HBr
              go_wp2_with fail
              refine hsm.mono ?_
              rintro e wh ⟨rfl, bh⟩
              clear hsm
              have hZh := ZB.out _ _ HZg.out bh
              have hsm := same_any la fa lc fc (plusM ps (-77) 80) (plusM ps (-77) 80) wh (ZL.out _ hZh).rowN.1 (ZF.out _ hZh).rowN.1 (by have := HL.out; rw [plusM_len]; omega)
              rw [plusM_len, ← HL.out, decide_eq_true rfl] at hsm
              have HO1h := hide_it (HO1g.out.below bh)
              have HO2h := hide_it (HO2g.out.below bh)
              have HBh := hide_it (HBg.out.trans (bh.mono HBg.out.size))
              clear bh hZh HZg HO1g HO2g HBg
              go_wp2_with fail
              refine hsm.mono ?_
              rintro e wi ⟨rfl, bi⟩
              clear hsm
              have ho1 := HO1h.out.below bi
              obtain ⟨xa, xc, rfl, hxr, _, _, _⟩ := ho1.row
              have hmk := marked_any xa xc k (-5) (-55) (List.replicate k (-5)) wi hxr (by simp) (fun i hi => atI_rep hi) (by omega)
              have HO2i := hide_it (HO2h.out.below bi)
              have HBi := hide_it (HBh.out.trans (bi.mono HBh.out.size))
              have hpl1 : (plusM (List.replicate k (-5)) (-55) 80).length = k + 80 := by rw [plusM_len]; simp
              rw [hpl1]
              clear bi ho1 hxr hpl1 HO1h HO2h HBh
              go_wp2_with fail
              refine hmk.mono ?_
              rintro e wj ⟨rfl, bj⟩
              clear hmk
              have ho2 := HO2i.out.below bj
              obtain ⟨ya, yc, rfl, hyr, _, _, _⟩ := ho2.row
              have hmk := marked_any ya yc k (-6) (-66) (List.replicate k (-6)) wj hyr (by simp) (fun i hi => atI_rep hi) (by omega)
              have HBj := hide_it (HBi.out.trans (bj.mono HBi.out.size))
              have hpl2 : (plusM (List.replicate k (-6)) (-66) 80).length = k + 80 := by rw [plusM_len]; simp
              rw [hpl2]
              clear bj ho2 hyr hpl2 HO2i HBi
              go_wp2_with fail
              refine hmk.mono ?_
              rintro e wk ⟨rfl, bk⟩
              clear hmk
              have HBk := hide_it (HBj.out.trans (bk.mono HBj.out.size))
              clear bk
              go_wp2
              go_ret
              exact ⟨rfl, HBk.out⟩
end Go.Proofs.Ythlkegemkkepgaa.stampLeaves
