/- That LabelKeeps answers true. -/
import Derived.Test.YthclmkmajlinhaaKp1
import Derived.Test.YthclmkmajlinhaaKp2
import Derived.Test.YthclmkmajlinhaaOpen
namespace Go.Proofs.Ythclmkmajlinhaa.labelKeeps
open Go.RowKit

theorem Row.take {w : World} {a : Option Addr} {zs : List Nat} (h : Row w a zs) (n : Nat) : Row w a (zs.take n) := by
  rcases h with h | ⟨b, o, e, hlt, hc⟩
  · exact .inl (by rw [List.length_take]; omega)
  · refine .inr ⟨b, o, e, hlt, fun i hi => ?_⟩
    rw [List.length_take] at hi
    rw [hc i (by omega)]
    unfold at0
    rw [List.getD_eq_getElem?_getD, List.getD_eq_getElem?_getD, List.getElem?_take_of_lt (by omega)]
theorem at0_app {xs ys : List Nat} {i : Nat} : at0 (xs ++ ys) i = if i < xs.length then at0 xs i else at0 ys (i - xs.length) := by
  unfold at0
  by_cases h : i < xs.length
  · rw [if_pos h, List.getD_eq_getElem?_getD, List.getD_eq_getElem?_getD, List.getElem?_append_left h]
  · rw [if_neg h, List.getD_eq_getElem?_getD, List.getD_eq_getElem?_getD, List.getElem?_append_right (by omega)]
/-- The first j labels written over. -/
def over (F ls : List Nat) (j : Nat) : List Nat := ls.take j ++ F.drop j
theorem over_len {F ls : List Nat} {j : Nat} (h1 : j ≤ F.length) (h2 : j ≤ ls.length) : (over F ls j).length = F.length := by simp [over]; omega
theorem over_step {F ls : List Nat} {j : Nat} (h1 : j < F.length) (h2 : j < ls.length) : (over F ls j).set j (at0 ls j) = over F ls (j + 1) := by
  unfold over
  rw [List.set_append_right _ _ (by simp; omega)]
  simp only [List.length_take]
  rw [show j - min j ls.length = 0 by omega, List.drop_eq_getElem_cons h1, List.set_cons_zero, List.take_succ_eq_append_getElem h2, at0_get h2, List.append_assoc]
  rfl
theorem over_64 {F ls : List Nat} {j : Nat} (h1 : All64 F) (h2 : All64 ls) : All64 (over F ls j) := fun z hz => by
  rcases List.mem_append.1 hz with h | h
  · exact h2 z (List.mem_of_mem_take h)
  · exact h1 z (List.mem_of_mem_drop h)

/-- What is wanted of the lists that the law makes. -/
structure Full (u : World) (g c : Nat) (F : List Nat) : Prop where
  blk : ∃ rest, Blk .u64 36 u g F rest
  cap : F.length ≤ c
theorem Full.row {u : World} {g c : Nat} {F : List Nat} (h : Full u g c F) : Row u (some ⟨g, 0, none⟩) F := by
  obtain ⟨rest, hB⟩ := h.blk
  exact .inr ⟨g, 0, rfl, hB.lt, fun i hi => by rw [Nat.zero_add]; exact hB.cell hi⟩
theorem Full.keep {u u' : World} {g c : Nat} {F : List Nat} (h : Full u g c F) (e : u'.heap[g]? = u.heap[g]?) : Full u' g c F := by
  obtain ⟨rest, hB⟩ := h.blk
  exact ⟨⟨rest, e.trans hB⟩, h.cap⟩
theorem Full.lt {u : World} {g c : Nat} {F : List Nat} (h : Full u g c F) : g < u.heap.size := by
  obtain ⟨rest, hB⟩ := h.blk
  exact hB.lt
theorem Full.set {u : World} {g c : Nat} {F : List Nat} (h : Full u g c F) {i : Nat} (hi : i < F.length) (x : Nat) : Full (u.setCell ⟨g, i, none⟩ (.int .u64 (x : Int))) g c (F.set i x) := by
  obtain ⟨rest, hB⟩ := h.blk
  exact ⟨⟨rest, hB.set hi x⟩, by rw [List.length_set]; exact h.cap⟩
theorem full_of {u : World} {base : Nat} {v : Value} {F : List Nat} (h : OwnL u base v F) (h0 : 0 < F.length) : ∃ g c, v = .slice (some ⟨g, 0, none⟩) F.length c ∧ base ≤ g ∧ Full u g c F := by
  rcases h.2 with ⟨_, h1⟩ | ⟨g, cap, cur, hv, hb, hh, hn, hcap, hsz, htake⟩
  · omega
  · refine ⟨g, cap, hv, hb, ⟨⟨cur.toList.drop F.length, ?_⟩, hn⟩⟩
    unfold Blk
    rw [hh]
    have e2 : cur.toList.take F.length = F.map (encK .u64) := by rw [Nat.mul_one] at htake; exact htake
    rw [← e2, List.take_append_drop]

set_option maxRecDepth 100000 in
set_option maxHeartbeats 8000000 in
theorem walk (N : Nat) (hN : SortsL N) (hbig : 17592186044416 ≤ N) (a : Option Addr) (ca : Nat) (zs : List Nat) (x : Nat) (hx : W64 x) (b : Option Addr) (cb : Nat) (ls : List Nat) (w : World) (hz : Came1 w a ca zs) (hls : Came1 w b cb ls) :
    Calls Try.prog 8 #[.slice a zs.length ca, .int .u64 (x : Int), .slice b ls.length cb] w fun e w' => e = .returned (.bool true) ∧ Below w.heap.size w w' := by
  have hsz := hz.size
  have hlsz := hls.size
  have hmx : zs.length ≤ maxLen := by unfold maxLen; omega
  have hzr := hz.row
  have hz64 := hz.all
  have hzn := hz.none
  have hlr := hls.row
  have hl64 := hls.all
  have hdz : DistinctOk zs := distinct_any N hN zs (by omega) (by omega)
  have hdo : ∀ zz : List Nat, zz.length = zs.length → DistinctOk zz := fun zz e => distinct_any N hN zz (by omega) (by omega)
  clear hz hls
  obtain ⟨F, hF⟩ : ∃ F, F = zs ++ marks 70 := ⟨_, rfl⟩
  have lF : F.length = zs.length + 70 := by rw [hF]; simp [marks_len]
  have tF : F.take zs.length = zs := by rw [hF]; simp
  have k1 : ∀ i, i < zs.length → at0 F i = at0 zs i := fun i hi => by rw [hF, at0_app, if_pos hi]
  have k2 : ∀ i, zs.length ≤ i → i < F.length → at0 F i = 9000 + (i - zs.length) := fun i h1 h2 => by rw [hF, at0_app, if_neg (by omega)]; exact marks_at (by omega)
  have F64 : All64 F := fun z hz => by
    rw [hF] at hz
    rcases List.mem_append.1 hz with h | h
    · exact hz64 z h
    · obtain ⟨i, hi, rfl⟩ := List.mem_map.1 h
      have := List.mem_range.1 hi
      unfold W64; omega
  have HF := hidden hF
  have HLF := hidden lF
  have HTF := hidden tF
  have HK1 := hidden k1
  have HK2 := hidden k2
  have bF : F.length ≤ 17592186044000 := by omega
  have zF : zs.length ≤ F.length := by omega
  have pF : 0 < F.length := by omega
  clear hF lF tF k1 k2
  go_enter Try.func8, Try.ntmps8
  go_wp2_with fail
  refine (plain_any a ca zs w hzr (by omega)).mono ?_
  rintro e w1 ⟨⟨gp, rfl, hpr⟩, hb1⟩
  go_wp2_with fail
  go_loopw [8] (fun i wr => ∃ k : Nat, k ≤ 3 ∧ i = .int .i64 (k : Int) ∧ Below w1.heap.size w1 wr) (fun i _ => 3 - (intOf i).toNat)
  case atStart => exact ⟨0, by omega, rfl, Below.refl _ _⟩
  case round =>
    obtain ⟨k, hk, rfl, hbl⟩ := hrel
    have hbw := hb1.trans (hbl.mono hb1.size)
    by_cases hk3 : k < 3
    · have hd : decide ((k : Int) < 3) = true := by simp; omega
      have W0 := askL_len k zs x
      obtain ⟨W, hW⟩ : ∃ W, W = askL k zs x := ⟨_, rfl⟩
      have HWW := hidden hW
      rw [← hW] at W0
      have mW : W.length ≤ maxLen := by omega
      clear hW
      -- want
      have han := answer_any k hk3 x (some ⟨gp, 0, none⟩) zs.length zs wr hx (hpr.below hbl) hz64 (by omega)
      rw [← HWW.out] at han
      go_wp2_with fail
      refine han.mono ?_
      rintro e u1 ⟨⟨gw, cw, rfl, hwr⟩, hb⟩
      have hbl1 := hbl.trans (hb.mono hbl.size)
      have hbw1 := hbw.trans (hb.mono hbw.size)
      clear han hbl hbw hb
      -- full
      go_wp2_with fail
      refine (room_any a ca zs u1 (hzr.below hbw1) (by omega) hzn).mono ?_
      rintro e u2 ⟨⟨r, rfl, ho⟩, hb⟩
      rw [← HF.out] at ho
      obtain ⟨gf, cf, hv, hgf, hfu⟩ := full_of ho pF
      subst hv
      have s1 : u1.heap.size ≤ u2.heap.size := hb.size
      have B1 : Below u1.heap.size u1 u2 := hb
      have hfc := hfu.cap
      have hfl := hfu.lt
      clear ho hb
      have hin2 := Row.take hfu.row zs.length
      rw [HTF.out] at hin2
      have hci : (zs.length : Int) ≤ (cf : Int) := by omega
      -- a
      have hak := ask_any k hk3 x (some ⟨gf, 0, none⟩) cf zs u2 hdz hx hin2 hz64 (by omega) (fun e => by cases e)
      rw [← HWW.out] at hak
      go_wp2_with fail
      refine hak.mono ?_
      rintro e u3 ⟨⟨va, rfl, hoa⟩, hb3⟩
      have s2 := hb3.size
      have B2 : Below u2.heap.size u2 u3 := hb3
      have hin3 := hin2.below hb3
      clear hak
      -- b
      have hak := ask_any k hk3 x (some ⟨gf, 0, none⟩) cf zs u3 hdz hx hin3 hz64 (by omega) (fun e => by cases e)
      rw [← HWW.out] at hak
      obtain ⟨aa, ac, hva, _, _⟩ := hoa.row
      subst hva
      go_wp2_with fail
      refine hak.mono ?_
      rintro e u4 ⟨⟨vb, rfl, hob⟩, hb4⟩
      have s3 := hb4.size
      have hoa4 := hoa.below hb4
      have B24 := B2.trans (hb4.mono B2.size)
      obtain ⟨ba, bc, hvb, _, _⟩ := hob.row
      subst hvb
      have hal : ∀ j, (Value.slice aa W.length ac).ownBlock = some j → u2.heap.size ≤ j ∧ j < u3.heap.size := fun j e => hoa.inside e
      have hbl' : ∀ j, (Value.slice ba W.length bc).ownBlock = some j → u3.heap.size ≤ j ∧ j < u4.heap.size := fun j e => hob.inside e
      have HP : Hid (∀ u, Below u2.heap.size u2 u → Row u (some ⟨gp, 0, none⟩) zs) := fun u B => hpr.below (hbl1.trans ((B1.trans (B.mono s1)).mono hbl1.size))
      have HW : Hid (∀ u, Below u2.heap.size u2 u → RowI u gw W) := fun u B => hwr.below (B1.trans (B.mono s1))
      have HFu : Hid (∀ u, Below u2.heap.size u2 u → Full u gf cf F) := fun u B => hfu.keep (B.block gf hfl)
      have hwr0 := hwr
      clear hak hoa hb3 hb4 B2 hin2 hin3 hwr hfu
      -- kept, the same, the same
      go_wp2_with fail
      refine (kept_any _ _ cf zs.length F zs u4 (HFu.out _ B24).row (HP.out _ B24) (by omega) HLF HK1.out HK2.out).mono ?_
      rintro e u5 ⟨rfl, hb5⟩
      have B25 := B24.trans (hb5.mono B24.size)
      have hoa5 := hoa4.below hb5
      have hob5 := hob.below hb5
      obtain ⟨_, _, ev, hra, _⟩ := hoa5.row
      cases ev
      have hsi := sameInts_any aa gw ac cw W W u5 hra (HW.out _ B25) mW
      rw [decide_eq_true rfl] at hsi
      clear hoa4 hob hb5 B24 hra
      go_wp2_with fail
      refine hsi.mono ?_
      rintro e u6 ⟨rfl, hb6⟩
      have B26 := B25.trans (hb6.mono B25.size)
      have hoa6 := hoa5.below hb6
      have hob6 := hob5.below hb6
      obtain ⟨_, _, ev, hrb, _⟩ := hob6.row
      cases ev
      have hsi := sameInts_any ba gw bc cw W W u6 hrb (HW.out _ B26) mW
      rw [decide_eq_true rfl] at hsi
      clear hoa5 hob5 hb6 B25 hrb
      go_wp2_with fail
      refine hsi.mono ?_
      rintro e u7 ⟨rfl, hb7⟩
      have B27 := B26.trans (hb7.mono B26.size)
      have hoa7 := hoa6.below hb7
      have hob7 := hob6.below hb7
      clear hoa6 hob6 hb7 B26 hsi
      -- spoil(a)
      go_wp2_with fail
      refine (spoil_any aa W.length ac 100000 _ u7 (by omega) (rebase hoa7 (Nat.zero_le _)) (by omega)).mono ?_
      rintro e u8 ⟨rfl, hg8⟩
      have B28 : Below u2.heap.size u2 u8 := B27.grown hg8 B27.size (fun j e => (hal j e).1)
      have hob8 := hob7.keep (w' := u8) (fun j e => hg8.block j (hob7.inside e).2 (fun e2 => by have := (hal j e2.symm).2; have := (hbl' j e).1; omega))
      clear hoa7 hob7 hg8 B27
      obtain ⟨_, _, ev, hrb, _⟩ := hob8.row
      cases ev
      have hsi := sameInts_any ba gw bc cw W W u8 hrb (HW.out _ B28) mW
      rw [decide_eq_true rfl] at hsi
      clear hrb
      go_wp2_with fail
      refine hsi.mono ?_
      rintro e u9 ⟨rfl, hb9⟩
      have B29 := B28.trans (hb9.mono B28.size)
      have hob9 := hob8.below hb9
      clear hsi hob8 hb9 B28
      go_wp2_with fail
      refine (kept_any _ _ cf zs.length F zs u9 (HFu.out _ B29).row (HP.out _ B29) (by omega) HLF HK1.out HK2.out).mono ?_
      rintro e u10 ⟨rfl, hb10⟩
      have B210 := B29.trans (hb10.mono B29.size)
      have hob10 := hob9.below hb10
      clear hob9 hb10 B29
      -- c
      have hin10 := Row.take (HFu.out _ B210).row zs.length
      rw [HTF.out] at hin10
      have hak := ask_any k hk3 x (some ⟨gf, 0, none⟩) cf zs u10 hdz hx hin10 hz64 (by omega) (fun e => by cases e)
      rw [← HWW.out] at hak
      clear hin10
      go_wp2_with fail
      refine hak.mono ?_
      rintro e u11 ⟨⟨vc, rfl, hoc⟩, hb11⟩
      have B211 := B210.trans (hb11.mono B210.size)
      have hob11 := hob10.below hb11
      have hcb : ∀ j, vc.ownBlock = some j → u10.heap.size ≤ j := fun j e => (hoc.inside e).1
      have hb10 : ∀ j, (Value.slice ba W.length bc).ownBlock = some j → j < u10.heap.size := fun j e => (hob10.inside e).2
      obtain ⟨cca, ccc, hvc, _, _⟩ := hoc.row
      subst hvc
      have s10 := B210.size
      clear hak hob10 hb11 B210
      -- spoil(b)
      go_wp2_with fail
      refine (spoil_any ba W.length bc 200000 _ u11 (by omega) (rebase hob11 (Nat.zero_le _)) (by omega)).mono ?_
      rintro e u12 ⟨rfl, hg12⟩
      have B212 : Below u2.heap.size u2 u12 := B211.grown hg12 B211.size (fun j e => by have := (hbl' j e).1; omega)
      have hoc12 := hoc.keep (w' := u12) (fun j e => hg12.block j (hoc.inside e).2 (fun e2 => by have := hb10 j e2.symm; have := hcb j e; omega))
      clear hoc hob11 hg12 B211
      obtain ⟨_, _, ev, hrc, _⟩ := hoc12.row
      cases ev
      have hsi := sameInts_any cca gw ccc cw W W u12 hrc (HW.out _ B212) mW
      rw [decide_eq_true rfl] at hsi
      clear hrc
      go_wp2_with fail
      refine hsi.mono ?_
      rintro e u13 ⟨rfl, hb13⟩
      have B213 := B212.trans (hb13.mono B212.size)
      have hoc13 := hoc12.below hb13
      have hfu13 := HFu.out _ B213
      have hbw13 := hbw1.trans ((B1.trans (B213.mono s1)).mono hbw1.size)
      have s13 := B213.size
      clear hsi hoc12 hb13 B212
      go_wp2_with fail
      -- written over
      go_loopw [15] (fun i wq => ∃ j : Nat, j ≤ zs.length ∧ j ≤ ls.length ∧ i = .int .i64 (j : Int) ∧ Full wq gf cf (over F ls j) ∧ u13.grownBy wq (some gf)) (fun i _ => zs.length - (intOf i).toNat)
      case atStart => exact ⟨0, by omega, by omega, rfl, by simpa [over] using hfu13, World.grownBy.refl _ _⟩
      case round =>
        obtain ⟨j, hj1, hj2, rfl, hfj, hgj⟩ := hrel
        clear hfu13
        have hol := over_len (F := F) (ls := ls) (j := j) (by omega) hj2
        have hbwj : Below w.heap.size w wr := hbw13.grown hgj hbw13.size (fun i e => by cases e; have := hbw1.size; omega)
        by_cases hjj : j < zs.length ∧ j < ls.length
        · obtain ⟨hja, hjb⟩ := hjj
          have i1 : (j : Int) < (zs.length : Int) := by omega
          have i2 : (j : Int) < (ls.length : Int) := by omega
          obtain ⟨bb, oo, rfl, _, hcl⟩ := (hlr.below hbwj).here hjb
          have c1 := hcl j hjb
          have hset := hfj.set (i := j) (by omega) (at0 ls j)
          rw [over_step (by omega) hjb] at hset
          obtain ⟨rest, hB⟩ := hfj.blk
          have c2 := hB.cell (i := j) (by omega)
          have f2 := hB.frozen j
          have hg2 : u13.grownBy (wr.setCell ⟨gf, j, none⟩ (.int .u64 ((at0 ls j : Nat) : Int))) (some gf) := grown_set hgj _ _
          clear hcl hfj hB hol
          go_wp2_with fail
          go_roundw
          case rel => exact ⟨j + 1, by omega, by omega, by go_num, hset, hg2⟩
          case measure => simp [intOf]; omega
        · obtain ⟨zz, hzz⟩ : ∃ zz, zz = (over F ls j).take zs.length := ⟨_, rfl⟩
          have hzzl : zz.length = zs.length := by rw [hzz, List.length_take]; omega
          have HZL := hidden hzzl
          have hzz64 : All64 zz := fun z hz => by rw [hzz] at hz; exact over_64 F64 hl64 z (List.mem_of_mem_take hz)
          have hdzz := hdo zz hzzl
          have hin14 : Row wr (some ⟨gf, 0, none⟩) zz := by rw [hzz]; exact Row.take hfj.row zs.length
          have hoc14 := hoc13.keep (w' := wr) (fun i e => hgj.block i (hoc13.inside e).2 (fun e2 => by cases e2; have := hcb gf e; omega))
          have B1a : Below u1.heap.size u1 wr := (B1.trans (B213.mono s1)).grown hgj (by have := B213.size; omega) (fun i e => by cases e; exact hgf)
          have hwr14 : RowI wr gw W := hwr0.below B1a
          have W20 := askL_len k zz x
          obtain ⟨W2, hW2⟩ : ∃ W, W = askL k zz x := ⟨_, rfl⟩
          have HW2 := hidden hW2
          rw [← hW2, hzzl] at W20
          have mW2 : W2.length ≤ maxLen := by omega
          have hpl := plain_any (some ⟨gf, 0, none⟩) cf zz wr hin14 (by omega)
          rw [hzzl] at hpl
          clear hzz hzzl hW2 hfj hol hgj hoc13
          by_cases hja : j < zs.length
          · have i1 : (j : Int) < (zs.length : Int) := by omega
            have i2 : ¬ (j : Int) < (ls.length : Int) := by omega
            go_wp2_with fail
            refine hpl.mono ?_
            rintro e u15 ⟨⟨g15, rfl, hq15⟩, hb15⟩
            have B115 : Below wr.heap.size wr u15 := hb15
            have hoc15 := hoc14.below hb15
            have hin15 := hin14.below hb15
            have hak := ask_any k hk3 x (some ⟨gf, 0, none⟩) cf zz u15 hdzz hx hin15 hzz64 (by rw [HZL.out]; omega) (fun e => by cases e)
            rw [← HW2.out, HZL.out] at hak
            clear hpl hb15 hin14 hin15 hoc14
            go_wp2_with fail
            refine hak.mono ?_
            rintro e u16 ⟨⟨v16, rfl, ho16⟩, hb16⟩
            have B116 := B115.trans (hb16.mono B115.size)
            have hoc16 := hoc15.below hb16
            obtain ⟨a16, c16, hv16, _, _⟩ := ho16.row
            subst hv16
            have han := answer_any k hk3 x (some ⟨g15, 0, none⟩) zs.length zz u16 hx (hq15.below hb16) hzz64 (by rw [HZL.out]; omega)
            rw [← HW2.out, HZL.out] at han
            clear hak hb16 hoc15 B115 hq15
            go_wp2_with fail
            refine han.mono ?_
            rintro e u17 ⟨⟨g17, c17, rfl, hr17⟩, hb17⟩
            have B117 := B116.trans (hb17.mono B116.size)
            have hoc17 := hoc16.below hb17
            have ho17 := ho16.below hb17
            obtain ⟨_, _, ev, hr16, _⟩ := ho17.row
            cases ev
            have hsi := sameInts_any a16 g17 c16 c17 W2 W2 u17 hr16 hr17 mW2
            rw [decide_eq_true rfl] at hsi
            clear han hb17 hoc16 ho16 ho17 B116 hr16 hr17
            go_wp2_with fail
            refine hsi.mono ?_
            rintro e u18 ⟨rfl, hb18⟩
            have B118 := B117.trans (hb18.mono B117.size)
            have hoc18 := hoc17.below hb18
            obtain ⟨_, _, ev, hrc, _⟩ := hoc18.row
            cases ev
            have hsi2 := sameInts_any cca gw ccc cw W W u18 hrc (hwr14.below B118) mW
            rw [decide_eq_true rfl] at hsi2
            clear hsi hb18 hoc17 hoc18 B117 hrc
            go_wp2_with fail
            refine hsi2.mono ?_
            rintro e u19 ⟨rfl, hb19⟩
            have B119 := B118.trans (hb19.mono B118.size)
            have hfin : Below w1.heap.size w1 u19 := hbl1.trans ((B1a.trans (B119.mono B1a.size)).mono hbl1.size)
            clear hsi2 hb19 B118 B119
            go_wp2_with fail
            go_roundw
            case rel => exact ⟨k + 1, by omega, by go_num, hfin⟩
            case measure => simp [intOf]; omega
          · have i1 : ¬ (j : Int) < (zs.length : Int) := by omega
            go_wp2_with fail
            refine hpl.mono ?_
            rintro e u15 ⟨⟨g15, rfl, hq15⟩, hb15⟩
            have B115 : Below wr.heap.size wr u15 := hb15
            have hoc15 := hoc14.below hb15
            have hin15 := hin14.below hb15
            have hak := ask_any k hk3 x (some ⟨gf, 0, none⟩) cf zz u15 hdzz hx hin15 hzz64 (by rw [HZL.out]; omega) (fun e => by cases e)
            rw [← HW2.out, HZL.out] at hak
            clear hpl hb15 hin14 hin15 hoc14
            go_wp2_with fail
            refine hak.mono ?_
            rintro e u16 ⟨⟨v16, rfl, ho16⟩, hb16⟩
            have B116 := B115.trans (hb16.mono B115.size)
            have hoc16 := hoc15.below hb16
            obtain ⟨a16, c16, hv16, _, _⟩ := ho16.row
            subst hv16
            have han := answer_any k hk3 x (some ⟨g15, 0, none⟩) zs.length zz u16 hx (hq15.below hb16) hzz64 (by rw [HZL.out]; omega)
            rw [← HW2.out, HZL.out] at han
            clear hak hb16 hoc15 B115 hq15
            go_wp2_with fail
            refine han.mono ?_
            rintro e u17 ⟨⟨g17, c17, rfl, hr17⟩, hb17⟩
            have B117 := B116.trans (hb17.mono B116.size)
            have hoc17 := hoc16.below hb17
            have ho17 := ho16.below hb17
            obtain ⟨_, _, ev, hr16, _⟩ := ho17.row
            cases ev
            have hsi := sameInts_any a16 g17 c16 c17 W2 W2 u17 hr16 hr17 mW2
            rw [decide_eq_true rfl] at hsi
            clear han hb17 hoc16 ho16 ho17 B116 hr16 hr17
            go_wp2_with fail
            refine hsi.mono ?_
            rintro e u18 ⟨rfl, hb18⟩
            have B118 := B117.trans (hb18.mono B117.size)
            have hoc18 := hoc17.below hb18
            obtain ⟨_, _, ev, hrc, _⟩ := hoc18.row
            cases ev
            have hsi2 := sameInts_any cca gw ccc cw W W u18 hrc (hwr14.below B118) mW
            rw [decide_eq_true rfl] at hsi2
            clear hsi hb18 hoc17 hoc18 B117 hrc
            go_wp2_with fail
            refine hsi2.mono ?_
            rintro e u19 ⟨rfl, hb19⟩
            have B119 := B118.trans (hb19.mono B118.size)
            have hfin : Below w1.heap.size w1 u19 := hbl1.trans ((B1a.trans (B119.mono B1a.size)).mono hbl1.size)
            clear hsi2 hb19 B118 B119
            go_wp2_with fail
            go_roundw
            case rel => exact ⟨k + 1, by omega, by go_num, hfin⟩
            case measure => simp [intOf]; omega
    · have hd : decide ((k : Int) < 3) = false := by simp; omega
      go_wp2_with fail
      refine (awake_any _).mono ?_
      rintro e w2 ⟨rfl, hb2⟩
      go_wp2_with fail
      go_ret
      exact ⟨rfl, hbw.trans (hb2.mono hbw.size)⟩
end Go.Proofs.Ythclmkmajlinhaa.labelKeeps
