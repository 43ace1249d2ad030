/- That LabelKeepsLists answers true of every two lists of at most 1048576 labels. -/
import Derived.Test.YthclmkmajlinhabKq1
import Derived.Test.YthclmkmajlinhabCv3
import Derived.Test.YthclmkmajlinhabCmp2
import Derived.Test.YthclmkmajlinhabAwake2
import Derived.Test.YthclmkmajlinhabOpen
namespace Go.Proofs.Ythclmkmajlinhab.labelKeepsLists
open Go.RowKit

set_option maxRecDepth 100000 in
set_option maxHeartbeats 8000000 in
theorem walk (N : Nat) (hN : SortsL N) (hbig : 1048576 ≤ N) (M : Nat) (hM : SortsI M) (hbigM : 1048576 ≤ M) (a : Option Addr) (ca : Nat) (zs : List Nat) (b : Option Addr) (cb : Nat) (ls : List Nat) (w : World) (hz : Came1 w a ca zs) (hzl : zs.length ≤ 1048576) (hls : Came1 w b cb ls) (hlsl : ls.length ≤ 1048576) :
    Calls Try.prog 3 #[.slice a zs.length ca, .slice b ls.length cb] w fun e w' => e = .returned (.bool true) ∧ Below w.heap.size w w' := by
  have hmx : zs.length ≤ maxLen := by unfold maxLen; omega
  have hzr := hz.row
  have hz64 := hz.all
  have hzn := hz.none
  have hlr := hls.row
  have hl64 := hls.all
  have hdz : DistinctOk zs := distinct_any N hN zs (by omega) (by omega)
  have hdo : ∀ zz : List Nat, zz.length = zs.length → DistinctOk zz := fun zz e => distinct_any N hN zz (by omega) (by omega)
  obtain ⟨j0, hj, hj0, hj1, hj2⟩ := info_parts infoPair
  obtain ⟨l0, hq, hq0, hq1, hq2⟩ := info_parts infoLab
  clear hz hls
  obtain ⟨F, hF⟩ : ∃ F, F = zs ++ marks 70 := ⟨_, rfl⟩
  have lF : F.length = zs.length + 70 := by rw [hF]; simp [marks_len]
  have tF : F.take zs.length = zs := by rw [hF]; simp
  have k1 : ∀ i, i < zs.length → at0 F i = at0 zs i := fun i hi => by rw [hF, at0_app, if_pos hi]
  have k2 : ∀ i, zs.length ≤ i → i < F.length → at0 F i = 9000 + (i - zs.length) := fun i h1 h2 => by rw [hF, at0_app, if_neg (by omega)]; exact marks_at (by omega)
  have F64 : All64 F := fun z hz => by
    rw [hF] at hz
    rcases List.mem_append.1 hz with h | h
    · exact hz64 z h
    · obtain ⟨i, hi, rfl⟩ := List.mem_map.1 h
      have := List.mem_range.1 hi
      unfold W64; omega
  have HF := hidden hF
  have HLF := hidden lF
  have HTF := hidden tF
  have HK1 := hidden k1
  have HK2 := hidden k2
  have bF : F.length ≤ 1048646 := by omega
  have zF : zs.length ≤ F.length := by omega
  have pF : 0 < F.length := by omega
  have hcov := fun (u : World) (cap : Nat) (gg : Nat) (hr : Row u (some ⟨gg, 0, none⟩) zs) => covers_any (some ⟨gg, 0, none⟩) cap zs u M hM (by omega) hdz hr hz64 hzl (fun e => by cases e)
  have hpl := prs_len zs zs.length
  have hpm : zs.length * zs.length ≤ 1048576 * 1048576 := Nat.mul_le_mul hzl hzl
  obtain ⟨pr, hpr'⟩ : ∃ pr, pr = prs zs zs.length := ⟨_, rfl⟩
  rw [← hpr'] at hpl
  have HPR := hidden hpr'
  have lP : pr.length ≤ 1048576 * 1048576 := Nat.le_trans hpl hpm
  have mP : pr.length ≤ maxLen := by unfold maxLen; omega
  clear hF lF tF k1 k2 hpl hpm hpr'
  go_enter Try.func3, Try.ntmps3
  go_wp2_with fail
  refine (plain_any a ca zs w hzr (by omega)).mono ?_
  rintro e u1 ⟨⟨gp, rfl, hpr1⟩, hb1⟩
  go_wp2_with fail
  refine (room_any a ca zs u1 (hzr.below hb1) (by omega) hzn).mono ?_
  rintro e u2 ⟨⟨r, rfl, ho⟩, hb2⟩
  rw [← HF.out] at ho
  obtain ⟨gf, cf, hv, hgf, hfu⟩ := full_of ho pF
  subst hv
  have s1 := hb1.size
  have s2 := hb2.size
  have B2 := hb1.trans (hb2.mono s1)
  have hpr2 := hpr1.below hb2
  have hfc := hfu.cap
  have hfl := hfu.lt
  have hci : (zs.length : Int) ≤ (cf : Int) := by omega
  clear ho hb1 hb2 hpr1
  go_wp2_with fail
  -- covers, closed
  refine (rcovers_any (some ⟨gp, 0, none⟩) zs.length zs u2 hpr2 hz64 hzl).mono ?_
  rintro e u3 ⟨⟨vr, rfl, hor3⟩, hb3⟩
  rw [← HPR.out] at hor3
  have s3 := hb3.size
  have B3 := B2.trans (hb3.mono B2.size)
  have hpr3 := hpr2.below hb3
  have hfu3 := hfu.keep (hb3.block gf hfl)
  obtain ⟨ra, rc, hvr, _, _⟩ := rowP_of_owns hor3
  subst hvr
  clear hpr2 hfu hb3 B2
  go_wp2_with fail
  refine (rclose_own (some ⟨gp, 0, none⟩) zs.length zs u3 hpr3 hz64 hmx).mono ?_
  rintro e u4 ⟨⟨ka, kc, G, gn, rfl, hres, hok4⟩, hb4⟩
  have s4 := hb4.size
  have B4 := B3.trans (hb4.mono B3.size)
  have hpr4 := hpr3.below hb4
  have hfu4 := hfu3.keep (hb4.block gf (by omega))
  have hor4 := owns_below hor3 hb4
  have HRES := hidden hres
  have lG : G.length ≤ 16 := hres.len
  have mG : G.length ≤ maxLen := by unfold maxLen; omega
  clear hpr3 hfu3 hor3 hb4 B3 hres
  have hin4 := Row.take hfu4.row zs.length
  rw [HTF.out] at hin4
  have hc5 := hcov u4 cf gf hin4
  -- a, b
  go_wp2_with fail
  refine hc5.mono ?_
  rintro e u5 ⟨hb5, va, C, fa, rfl, hm, hst, hab, hoa5⟩
  rw [prsTo_eq hm hst hab, ← HPR.out] at hoa5
  have s5 := hb5.size
  obtain ⟨aa, ac, hva, _, _⟩ := rowP_of_owns hoa5
  subst hva
  have hin5 := hin4.below hb5
  have hc6 := hcov u5 cf gf hin5
  clear hc5 hm hst hab
  go_wp2_with fail
  refine hc6.mono ?_
  rintro e u6 ⟨hb6, vb, C2, fa2, rfl, hm, hst, hab, hob6⟩
  rw [prsTo_eq hm hst hab, ← HPR.out] at hob6
  have s6 := hb6.size
  obtain ⟨ba, bc, hvb, _, _⟩ := rowP_of_owns hob6
  subst hvb
  have hin6 := hin5.below hb6
  have hoa6 := owns_below hoa5 hb6
  have hal : ∀ j, (Value.slice aa pr.length ac).ownBlock = some j → u4.heap.size ≤ j ∧ j < u5.heap.size := fun j e => owns_inside hoa5 e
  have B46 := hb5.trans (hb6.mono s5)
  clear hc6 hm hst hab hoa5 hcov hb5 hb6 hin4 hin5
  -- x, y
  go_wp2_with fail
  refine (close_own N hN (by omega) (some ⟨gf, 0, none⟩) cf zs u6 hin6 hz64 hmx).mono ?_
  rintro e u7 ⟨⟨xa, xc, G1, gn1, rfl, hres1, hox7⟩, hb7⟩
  have hG1 := HRES.out.same hres1
  subst hG1
  have s7 := hb7.size
  have hin7 := hin6.below hb7
  have hoa7 := owns_below hoa6 hb7
  have hob7 := owns_below hob6 hb7
  have B47 := B46.trans (hb7.mono B46.size)
  have hbl : ∀ j, (Value.slice ba pr.length bc).ownBlock = some j → u5.heap.size ≤ j ∧ j < u6.heap.size := fun j e => owns_inside hob6 e
  clear hres1 hoa6 hob6 hb7 B46 hin6
  go_wp2_with fail
  refine (close_own N hN (by omega) (some ⟨gf, 0, none⟩) cf zs u7 hin7 hz64 hmx).mono ?_
  rintro e u8 ⟨⟨ya, yc, G2, gn2, rfl, hres2, hoy8⟩, hb8⟩
  have hG2 := HRES.out.same hres2
  have s8 := hb8.size
  have hoa8 := owns_below hoa7 hb8
  have hob8 := owns_below hob7 hb8
  have hox8 : OwnLb u8 u6.heap.size _ _ := owns_below hox7 hb8
  have hxl : ∀ j, (Value.slice xa G1.length xc).ownBlock = some j → u6.heap.size ≤ j ∧ j < u7.heap.size := fun j e => owns_inside hox7 e
  have hyl : ∀ j, (Value.slice ya G2.length yc).ownBlock = some j → u7.heap.size ≤ j ∧ j < u8.heap.size := fun j e => owns_inside hoy8 e
  have B48 := B47.trans (hb8.mono B47.size)
  clear hres2 hoa7 hob7 hb8 B47 hin7 hox7
  have hpw : ∀ k : Nat, k < 1048576 * 1048576 → IntKind.i64.wrap (-(k : Int)) = -(k : Int) := fun k hk => by rw [IntKind.wrap_i64]; omega
  have HPW := hidden hpw
  clear hpw
  go_wp2_with fail
  go_loopw [16] (fun i wr => ∃ (k : Nat) (ys : List Value), k ≤ pr.length ∧ i = .int .i64 k ∧ wr.ownsRow u4.heap.size 34 2 (.slice aa pr.length ac) pr.length ys ∧ u8.grownBy wr (Value.slice aa pr.length ac).ownBlock) (fun i _ => pr.length - (intOf i).toNat)
  case atStart => exact ⟨0, _, by omega, rfl, hoa8, World.grownBy.refl _ _⟩
  case round =>
    obtain ⟨k, ys, hk, rfl, ho, hg⟩ := hrel
    clear hoa8
    by_cases hlt : k < pr.length
    · have hi1 : (k : Int) < (pr.length : Int) := by omega
      obtain ⟨g, cur, rfl, _, hh, hcs⟩ := owns_blkS ho (by omega)
      obtain ⟨Mk, hMk⟩ : ∃ Mk : Int, Mk = -(k : Int) := ⟨_, rfl⟩
      have hw : IntKind.i64.wrap (-(k : Int)) = Mk := by rw [HPW.out k (by omega), hMk]
      have hw2 : -(k : Int) = Mk := hMk.symm
      have ho2 := owns_putS (owns_putS ho (k * 2) (.int .i64 (-7))) (k * 2 + 1) (.int .i64 Mk)
      have hg2 : u8.grownBy ((wr.setCell ⟨g, k * 2, none⟩ (.int .i64 (-7))).setCell ⟨g, k * 2 + 1, none⟩ (.int .i64 Mk)) (some g) := grown_set (grown_set hg _ _) _ _
      have f1 := frozen_of_row wr g (k * 2) _ _ hh
      have f2 := frozen_of_row wr g (k * 2 + 1) _ _ hh
      obtain ⟨v1, hv1⟩ : ∃ u, cur[k * 2]? = some u := ⟨_, Array.getElem?_eq_getElem (by omega)⟩
      obtain ⟨v2, hv2⟩ : ∃ u, cur[k * 2 + 1]? = some u := ⟨_, Array.getElem?_eq_getElem (by omega)⟩
      have c1 := (cell_of_row wr g (k * 2) _ _ _ hh).trans hv1
      have c2 := (cell_of_row wr g (k * 2 + 1) _ _ _ hh).trans hv2
      clear hMk hh hv1 hv2 ho hg
      go_wp2_with fail
      go_roundw
      case rel => exact ⟨k + 1, _, by omega, by go_num, ho2, hg2⟩
      case measure => simp [intOf]; omega
    · have hle : pr.length ≤ k := by omega
      go_wp2_with fail
      go_loopw [10, 17] (fun v i wr => ∃ (m : Nat) (ys : List Value), m ≤ 70 ∧ i = .int .i64 m ∧ wr.ownsRow u4.heap.size 34 2 v (pr.length + m) ys ∧ u8.grownBy wr (Value.slice aa pr.length ac).ownBlock ∧ (v.ownBlock = (Value.slice aa pr.length ac).ownBlock ∨ ∃ j, v.ownBlock = some j ∧ u8.heap.size ≤ j)) (fun _ i _ => 70 - (intOf i).toNat)
      case atStart => exact ⟨0, ys, by omega, rfl, ho, hg, .inl rfl⟩
      case round =>
        clear ho hg
        obtain ⟨m, ys, hm70, rfl, ho, hg, hor⟩ := hrel
        by_cases hlt2 : m < 70
        · have hd : decide ((m : Int) < 70) = true := by simp; omega
          obtain ⟨Mk, hMk⟩ : ∃ Mk : Int, Mk = -(m : Int) := ⟨_, rfl⟩
          have hw : IntKind.i64.wrap (-(m : Int)) = Mk := by rw [HPW.out m (by omega), hMk]
          have hw2 : -(m : Int) = Mk := hMk.symm
          have hone : ∀ u ∈ [Value.int .i64 (-8), .int .i64 Mk], u.oneCell' = true := by simp [Value.oneCell']
          have hsz := hg.size
          have hn63 : pr.length + m + 1 ≤ maxLen := by unfold maxLen; omega
          clear hMk
          go_wp2_with (first | (at_builtin; refine wpList_append_own_at _ rfl _ _ 26 rfl u4.heap.size 34 j0 (.agg #[.int .i64 0, .int .i64 0]) 2 16 Try.underlying26 hj hj0 hj1 hj2 rfl (by omega) _ _ _ rfl (ho.alloc _) ⟨wr.heap.size, 0, none⟩ 1 1 [.int .i64 (-8), .int .i64 Mk] rfl rfl (cell_two_new _ _ _ _) hone hn63 (by omega) (by simp; omega) ?_; intro v4 w4 hown4 hgrow4 hnil4 hat4))
          have hg1 : u8.grownBy (wr.alloc (.cells #[.int .i64 (-8), .int .i64 Mk] 34)) (Value.slice aa pr.length ac).ownBlock := hg.trans (World.grownBy_alloc _ _ _)
          go_roundw
          case rel => exact ⟨m + 1, _, by omega, by go_num, hown4, grown_mix hg1 hgrow4 hor, by
              rcases hat4 with e | e
              · rcases hor with e2 | ⟨j, e2, e3⟩
                · exact .inl (e.trans e2)
                · exact .inr ⟨j, e.trans e2, e3⟩
              · exact .inr ⟨_, e, by simp; omega⟩⟩
          case measure => simp [intOf]; omega
        · have s10 := hg.size
          have B410 : Below u4.heap.size u4 wr := B48.grown hg B48.size (fun j e => (hal j e).1)
          have hob10 := owns_keep (w' := wr) hob8 (fun j e => hg.block j (owns_inside hob8 e).2 (fun e2 => by have := (hal j e2.symm).2; have := (hbl j e).1; omega))
          have hox10 : OwnLb wr u6.heap.size _ _ := owns_keep (w' := wr) hox8 (fun j e => hg.block j (owns_inside hox8 e).2 (fun e2 => by have := (hal j e2.symm).2; have := (hxl j e).1; omega))
          have hoy10 : OwnLb wr u7.heap.size _ _ := owns_keep (w' := wr) hoy8 (fun j e => hg.block j (owns_inside hoy8 e).2 (fun e2 => by have := (hal j e2.symm).2; have := (hyl j e).1; omega))
          obtain ⟨u10, hu10⟩ : ∃ u10, u10 = wr := ⟨_, rfl⟩
          rw [← hu10] at B410 hob10 hox10 hoy10 s10 ⊢
          clear ho hg hor hob8 hox8 hoy8 B48 hu10 hal
          go_wp2_with fail
          go_loopw [18] (fun i wr => ∃ (k : Nat) (ys : List Value), k ≤ G1.length ∧ i = .int .i64 k ∧ wr.ownsRow u6.heap.size 36 1 (.slice xa G1.length xc) G1.length ys ∧ u10.grownBy wr (Value.slice xa G1.length xc).ownBlock) (fun i _ => G1.length - (intOf i).toNat)
          case atStart => exact ⟨0, _, by omega, rfl, hox10, World.grownBy.refl _ _⟩
          case round =>
            obtain ⟨k, ys, hk, rfl, ho, hg⟩ := hrel
            clear hox10
            by_cases hlt : k < G1.length
            · have hi1 : (k : Int) < (G1.length : Int) := by omega
              obtain ⟨g, cur, rfl, _, hh, hcs⟩ := owns_blkS ho (by omega)
              obtain ⟨Mk, hMk⟩ : ∃ Mk : Nat, Mk = 7000 + k := ⟨_, rfl⟩
              have hw : IntKind.i64.wrap (7000 + (k : Int)) = (Mk : Int) := by rw [IntKind.wrap_i64, hMk]; omega
              have hw2 : 7000 + (k : Int) = (Mk : Int) := by omega
              have hw3 : IntKind.u64.wrap (Mk : Int) = (Mk : Int) := by rw [IntKind.wrap_u64]; omega
              have ho2 := owns_putS ho k (.int .u64 (Mk : Int))
              have hg2 : u10.grownBy (wr.setCell ⟨g, k, none⟩ (.int .u64 (Mk : Int))) (some g) := grown_set hg _ _
              have f1 := frozen_of_row wr g k _ _ hh
              obtain ⟨v1, hv1⟩ : ∃ u, cur[k]? = some u := ⟨_, Array.getElem?_eq_getElem (by omega)⟩
              have c1 := (cell_of_row wr g k _ _ _ hh).trans hv1
              clear hMk hh hv1 ho hg
              go_wp2_with fail
              go_roundw
              case rel => exact ⟨k + 1, _, by omega, by go_num, ho2, hg2⟩
              case measure => simp [intOf]; omega
            · have hle : G1.length ≤ k := by omega
              go_wp2_with fail
              go_loopw [12, 19] (fun v i wr => ∃ (m : Nat) (ys : List Value), m ≤ 70 ∧ i = .int .i64 m ∧ wr.ownsRow u6.heap.size 36 1 v (G1.length + m) ys ∧ u10.grownBy wr (Value.slice xa G1.length xc).ownBlock ∧ (v.ownBlock = (Value.slice xa G1.length xc).ownBlock ∨ ∃ j, v.ownBlock = some j ∧ u10.heap.size ≤ j)) (fun _ i _ => 70 - (intOf i).toNat)
              case atStart => exact ⟨0, ys, by omega, rfl, ho, hg, .inl rfl⟩
              case round =>
                clear ho hg
                obtain ⟨m, ys, hm70, rfl, ho, hg, hor⟩ := hrel
                by_cases hlt2 : m < 70
                · have hd : decide ((m : Int) < 70) = true := by simp; omega
                  obtain ⟨Mk, hMk⟩ : ∃ Mk : Nat, Mk = 8000 + m := ⟨_, rfl⟩
                  have hw : IntKind.i64.wrap (8000 + (m : Int)) = (Mk : Int) := by rw [IntKind.wrap_i64, hMk]; omega
                  have hw2 : 8000 + (m : Int) = (Mk : Int) := by omega
                  have hw3 : IntKind.u64.wrap (Mk : Int) = (Mk : Int) := by rw [IntKind.wrap_u64]; omega
                  have hone : ∀ u ∈ [Value.int .u64 (Mk : Int)], u.oneCell' = true := by simp [Value.oneCell']
                  have hsz := hg.size
                  have hn63 : G1.length + m + 1 ≤ maxLen := by unfold maxLen; omega
                  clear hMk
                  go_wp2_with (first | (at_builtin; refine wpList_append_own_at _ rfl _ _ 22 rfl u6.heap.size 36 l0 (.int .u64 0) 1 8 Try.underlying22 hq hq0 hq1 hq2 rfl (by omega) _ _ _ rfl (ho.alloc _) ⟨wr.heap.size, 0, none⟩ 1 1 [.int .u64 (Mk : Int)] rfl rfl (cell_one_new wr (.int .u64 (Mk : Int)) 36) hone hn63 (by omega) (by simp; omega) ?_; intro v4 w4 hown4 hgrow4 hnil4 hat4))
                  have hg1 : u10.grownBy (wr.alloc (.cells #[.int .u64 (Mk : Int)] 36)) (Value.slice xa G1.length xc).ownBlock := hg.trans (World.grownBy_alloc _ _ _)
                  go_roundw
                  case rel => exact ⟨m + 1, _, by omega, by go_num, hown4, grown_mix hg1 hgrow4 hor, by
                      rcases hat4 with e | e
                      · rcases hor with e2 | ⟨j, e2, e3⟩
                        · exact .inl (e.trans e2)
                        · exact .inr ⟨j, e.trans e2, e3⟩
                      · exact .inr ⟨_, e, by simp; omega⟩⟩
                  case measure => simp [intOf]; omega
                · have s12 := hg.size
                  have B412 : Below u4.heap.size u4 wr := B410.grown hg B410.size (fun j e => by have := (hxl j e).1; omega)
                  have hob12 := owns_keep (w' := wr) hob10 (fun j e => hg.block j (owns_inside hob10 e).2 (fun e2 => by have := (hxl j e2.symm).1; have := (hbl j e).2; omega))
                  have hoy12 : OwnLb wr u7.heap.size _ _ := owns_keep (w' := wr) hoy10 (fun j e => hg.block j (owns_inside hoy10 e).2 (fun e2 => by have := (hxl j e2.symm).2; have := (hyl j e).1; omega))
                  obtain ⟨u12, hu12⟩ : ∃ u12, u12 = wr := ⟨_, rfl⟩
                  rw [← hu12] at B412 hob12 hoy12 s12 ⊢
                  clear ho hg hor hob10 hoy10 B410 hu12 hxl hyl hbl HPW
                  subst hG2
                  -- kept, the same, the same
                  have hfu12 := hfu4.keep (B412.block gf (by omega))
                  have hka := kept_any _ _ cf zs.length F zs u12 hfu12.row (hpr4.below B412) (by omega) HLF HK1.out HK2.out
                  go_wp2_with fail
                  refine hka.mono ?_
                  rintro e u13 ⟨rfl, hb13⟩
                  have B413 := B412.trans (hb13.mono B412.size)
                  have hob13 := owns_below hob12 hb13
                  have hoy13 : OwnLb u13 u7.heap.size _ _ := owns_below hoy12 hb13
                  have hor13 := owns_below hor4 B413
                  obtain ⟨_, _, ev, hrb, _⟩ := rowP_of_owns hob13
                  cases ev
                  obtain ⟨_, _, ev, hrr, _⟩ := rowP_of_owns hor13
                  cases ev
                  have hsp := samePairs_any ba ra bc rc pr u13 hrb hrr mP
                  clear hka hb13 hob12 hoy12 B412 hob13 hor13 hrb hrr hfu12
                  go_wp2_with fail
                  refine hsp.mono ?_
                  rintro e u14 ⟨rfl, hb14⟩
                  have B414 := B413.trans (hb14.mono B413.size)
                  have hoy14 : OwnLb u14 u7.heap.size _ _ := owns_below hoy13 hb14
                  have hok14 : OwnU u14 u3.heap.size _ _ := owns_below hok4 B414
                  obtain ⟨_, _, ev, hry, _⟩ := row_of_owns hoy14
                  cases ev
                  obtain ⟨_, _, ev, hrk, _, _⟩ := hok14.row
                  cases ev
                  have hsl := sameLabels_any ya ka yc kc _ _ u14 hry hrk mG
                  rw [decide_eq_true rfl] at hsl
                  clear hsp hb14 hoy13 B413 hoy14 hok14 hry hrk
                  go_wp2_with fail
                  refine hsl.mono ?_
                  rintro e u15 ⟨rfl, hb15⟩
                  have B415 := B414.trans (hb15.mono B414.size)
                  clear hsl hb15 B414
                  -- z, c
                  have hfu15 := hfu4.keep (B415.block gf (by omega))
                  have hin15 := Row.take hfu15.row zs.length
                  rw [HTF.out] at hin15
                  have s15 := B415.size
                  go_wp2_with fail
                  refine (close_own N hN (by omega) (some ⟨gf, 0, none⟩) cf zs u15 hin15 hz64 hmx).mono ?_
                  rintro e u16 ⟨⟨za, zc, G3, gn3, rfl, hres3, hoz16⟩, hb16⟩
                  have hG3 := HRES.out.same hres3
                  have s16 := hb16.size
                  have B416 := B415.trans (hb16.mono B415.size)
                  have hin16 := hin15.below hb16
                  have hc17 := covers_any (some ⟨gf, 0, none⟩) cf zs u16 M hM (by omega) hdz hin16 hz64 hzl (fun e => by cases e)
                  clear hres3 hb16 hin15 hin16 hfu15 B415
                  go_wp2_with fail
                  refine hc17.mono ?_
                  rintro e u17 ⟨hb17, vc, C, fa, rfl, hm, hst, hab, hoc17⟩
                  rw [prsTo_eq hm hst hab, ← HPR.out] at hoc17
                  have s17 := hb17.size
                  obtain ⟨cca, ccc, hvc, _, _⟩ := rowP_of_owns hoc17
                  subst hvc
                  have B417 := B416.trans (hb17.mono B416.size)
                  have hoz17 : OwnLb u17 u15.heap.size _ _ := owns_below hoz16 hb17
                  have hor17 := owns_below hor4 B417
                  have hok17 : OwnU u17 u3.heap.size _ _ := owns_below hok4 B417
                  have hfu17 := hfu4.keep (B417.block gf (by omega))
                  have Bw17 := B4.trans (B417.mono B4.size)
                  have s417 := B417.size
                  have s4w := B4.size
                  clear hc17 hm hst hab hb17 hoz16 B416
                  -- written over
                  go_wp2_with fail
                  go_loopw [23] (fun i wq => ∃ j : Nat, j ≤ zs.length ∧ j ≤ ls.length ∧ i = .int .i64 (j : Int) ∧ Full wq gf cf (over F ls j) ∧ u17.grownBy wq (some gf)) (fun i _ => zs.length - (intOf i).toNat)
                  case atStart => exact ⟨0, by omega, by omega, rfl, by simpa [over] using hfu17, World.grownBy.refl _ _⟩
                  case round =>
                    obtain ⟨j, hj1', hj2', rfl, hfj, hgj⟩ := hrel
                    clear hfu17
                    have hol := over_len (F := F) (ls := ls) (j := j) (by omega) hj2'
                    have hbwj : Below w.heap.size w wr := Bw17.grown hgj Bw17.size (fun i e => by cases e; omega)
                    by_cases hjj : j < zs.length ∧ j < ls.length
                    · obtain ⟨hja, hjb⟩ := hjj
                      have i1 : (j : Int) < (zs.length : Int) := by omega
                      have i2 : (j : Int) < (ls.length : Int) := by omega
                      obtain ⟨bb, oo, rfl, _, hcl⟩ := (hlr.below hbwj).here hjb
                      have c1 := hcl j hjb
                      have hset := hfj.set (i := j) (by omega) (at0 ls j)
                      rw [over_step (by omega) hjb] at hset
                      obtain ⟨rest, hB⟩ := hfj.blk
                      have c2 := hB.cell (i := j) (by omega)
                      have f2 := hB.frozen j
                      have hg2 : u17.grownBy (wr.setCell ⟨gf, j, none⟩ (.int .u64 ((at0 ls j : Nat) : Int))) (some gf) := grown_set hgj _ _
                      clear hcl hfj hB hol
                      go_wp2_with fail
                      go_roundw
                      case rel => exact ⟨j + 1, by omega, by omega, by go_num, hset, hg2⟩
                      case measure => simp [intOf]; omega
                    · obtain ⟨zz, hzz⟩ : ∃ zz, zz = (over F ls j).take zs.length := ⟨_, rfl⟩
                      have hzzl : zz.length = zs.length := by rw [hzz, List.length_take]; omega
                      have HZL := hidden hzzl
                      have hzz64 : All64 zz := fun z hz => by rw [hzz] at hz; exact over_64 F64 hl64 z (List.mem_of_mem_take hz)
                      have hdzz := hdo zz hzzl
                      have hin18 : Row wr (some ⟨gf, 0, none⟩) zz := by rw [hzz]; exact Row.take hfj.row zs.length
                      have hoz18 : OwnLb wr u15.heap.size _ _ := owns_keep (w' := wr) hoz17 (fun i e => hgj.block i (owns_inside hoz17 e).2 (fun e2 => by cases e2; have := (owns_inside hoz17 e).1; omega))
                      have hoc18 := owns_keep (w' := wr) hoc17 (fun i e => hgj.block i (owns_inside hoc17 e).2 (fun e2 => by cases e2; have := (owns_inside hoc17 e).1; omega))
                      have hor18 := owns_keep (w' := wr) hor17 (fun i e => hgj.block i (owns_inside hor17 e).2 (fun e2 => by cases e2; have := (owns_inside hor17 e).1; omega))
                      have hok18 : OwnU wr u3.heap.size _ _ := owns_keep (w' := wr) hok17 (fun i e => hgj.block i (owns_inside hok17 e).2 (fun e2 => by cases e2; have := (owns_inside hok17 e).1; omega))
                      have hpl := plain_any (some ⟨gf, 0, none⟩) cf zz wr hin18 (by omega)
                      have hcvz := fun u (hr : Row u (some ⟨gf, 0, none⟩) zz) => covers_any (some ⟨gf, 0, none⟩) cf zz u M hM (by omega) hdzz hr hzz64 (by omega) (fun e => by cases e)
                      have hclz := fun u (hr : Row u (some ⟨gf, 0, none⟩) zz) => close_own N hN (by omega) (some ⟨gf, 0, none⟩) cf zz u hr hzz64 (by omega)
                      have hrcvz := fun u gg (hr : Row u (some ⟨gg, 0, none⟩) zz) => rcovers_any (some ⟨gg, 0, none⟩) zz.length zz u hr hzz64 (by omega)
                      have hrclz := fun u gg (hr : Row u (some ⟨gg, 0, none⟩) zz) => rclose_own (some ⟨gg, 0, none⟩) zz.length zz u hr hzz64 (by omega)
                      rw [hzzl] at hpl
                      simp only [hzzl] at hcvz hclz hrcvz hrclz
                      have hpl2 := prs_len zz zz.length
                      have hpm2 : zz.length * zz.length ≤ 1048576 * 1048576 := Nat.mul_le_mul (by omega) (by omega)
                      obtain ⟨p2, hp2⟩ : ∃ p2, p2 = prs zz zz.length := ⟨_, rfl⟩
                      rw [← hp2] at hpl2
                      have HP2 := hidden hp2
                      have lP2 : p2.length ≤ 1048576 * 1048576 := Nat.le_trans hpl2 hpm2
                      have mP2 : p2.length ≤ maxLen := by unfold maxLen; omega
                      clear hzz hzzl hfj hol hgj hoz17 hoc17 hor17 hok17 hpl2 hpm2 hp2
                      subst hG3
                      by_cases hja : j < zs.length
                      · have i1 : (j : Int) < (zs.length : Int) := by omega
                        have i2 : ¬ (j : Int) < (ls.length : Int) := by omega
                        go_wp2_with fail
                        refine hpl.mono ?_
                        rintro e u19 ⟨⟨g19, rfl, hq19⟩, hb19⟩
                        have BB : Below wr.heap.size wr u19 := hb19
                        have hin19 := hin18.below hb19
                        clear hpl hb19 hin18
                        -- closedThen
                        go_wp2_with fail
                        refine (hrclz u19 g19 hq19).mono ?_
                        rintro e u20 ⟨⟨ta, tc, T1, tn, rfl, hrt, hot20⟩, hb20⟩
                        have BB20 := BB.trans (hb20.mono BB.size)
                        have hin20 := hin19.below hb20
                        have hq20 := hq19.below hb20
                        have HRT := hidden hrt
                        have lT : T1.length ≤ 16 := hrt.len
                        have mT : T1.length ≤ maxLen := by unfold maxLen; omega
                        clear hrclz hb20 hin19 hq19 BB hrt
                        -- w
                        go_wp2_with fail
                        refine (hclz u20 hin20).mono ?_
                        rintro e u21 ⟨⟨wa, wc, T2, tn2, rfl, hrt2, how21⟩, hb21⟩
                        have hT2 := HRT.out.same hrt2
                        subst hT2
                        have BB21 := BB20.trans (hb21.mono BB20.size)
                        have hin21 := hin20.below hb21
                        have hq21 := hq20.below hb21
                        have hot21 : OwnU u21 u19.heap.size _ _ := owns_below hot20 hb21
                        obtain ⟨_, _, ev, hrw, _⟩ := row_of_owns how21
                        cases ev
                        obtain ⟨_, _, ev, hrt3, _, _⟩ := hot21.row
                        cases ev
                        have hsl := sameLabels_any wa ta wc tc _ _ u21 hrw hrt3 mT
                        rw [decide_eq_true rfl] at hsl
                        clear hclz hb21 hin20 hq20 BB20 hot20 hot21 how21 hrt2 hrw hrt3
                        go_wp2_with fail
                        refine hsl.mono ?_
                        rintro e u22 ⟨rfl, hb22⟩
                        have BB22 := BB21.trans (hb22.mono BB21.size)
                        have hin22 := hin21.below hb22
                        have hq22 := hq21.below hb22
                        clear hsl hb22 hin21 hq21 BB21
                        -- covers of both
                        go_wp2_with fail
                        refine (hcvz u22 hin22).mono ?_
                        rintro e u23 ⟨hb23, v23, C, fa, rfl, hm, hst, hab, ho23⟩
                        have hpe := prsTo_eq hm hst hab
                        rw [HZL.out] at hpe
                        rw [hpe] at ho23
                        rw [HZL.out] at HP2
                        rw [← HP2.out] at ho23
                        obtain ⟨a23, c23, hv23, _, _⟩ := rowP_of_owns ho23
                        subst hv23
                        have BB23 := BB22.trans (hb23.mono BB22.size)
                        have hq23 := hq22.below hb23
                        clear hcvz hb23 hin22 hq22 BB22 hm hst hab hpe
                        go_wp2_with fail
                        refine (hrcvz u23 g19 hq23).mono ?_
                        rintro e u24 ⟨⟨v24, rfl, ho24⟩, hb24⟩
                        rw [← HP2.out] at ho24
                        obtain ⟨a24, c24, hv24, hr24, _⟩ := rowP_of_owns ho24
                        subst hv24
                        have BB24 := BB23.trans (hb24.mono BB23.size)
                        obtain ⟨_, _, ev, hr23, _⟩ := rowP_of_owns (owns_below ho23 hb24)
                        cases ev
                        have hsp := samePairs_any a23 a24 c23 c24 p2 u24 hr23 hr24 mP2
                        clear hrcvz hb24 hq23 BB23 ho23 ho24 hr23 hr24
                        go_wp2_with fail
                        refine hsp.mono ?_
                        rintro e u25 ⟨rfl, hb25⟩
                        have BB25 := BB24.trans (hb25.mono BB24.size)
                        obtain ⟨_, _, ev, hrz, _⟩ := row_of_owns (owns_below hoz18 BB25)
                        cases ev
                        obtain ⟨_, _, ev, hrk, _, _⟩ := OwnU.row (owns_below hok18 BB25)
                        cases ev
                        have hsl := sameLabels_any za ka zc kc _ _ u25 hrz hrk mG
                        rw [decide_eq_true rfl] at hsl
                        clear hsp hb25 BB24 hrz hrk
                        go_wp2_with fail
                        refine hsl.mono ?_
                        rintro e u26 ⟨rfl, hb26⟩
                        have BB26 := BB25.trans (hb26.mono BB25.size)
                        obtain ⟨_, _, ev, hrc, _⟩ := rowP_of_owns (owns_below hoc18 BB26)
                        cases ev
                        obtain ⟨_, _, ev, hrr, _⟩ := rowP_of_owns (owns_below hor18 BB26)
                        cases ev
                        have hsp := samePairs_any cca ra ccc rc pr u26 hrc hrr mP
                        clear hsl hb26 BB25 hrc hrr
                        go_wp2_with fail
                        refine hsp.mono ?_
                        rintro e u27 ⟨rfl, hb27⟩
                        have BB27 := BB26.trans (hb27.mono BB26.size)
                        have BW := hbwj.trans (BB27.mono hbwj.size)
                        clear hsp hb27 BB26
                        go_wp2_with fail
                        refine (awake_any _).mono ?_
                        rintro e u28 ⟨rfl, hb28⟩
                        go_wp2_with fail
                        go_ret
                        exact ⟨rfl, BW.trans (hb28.mono BW.size)⟩
                      · have i1 : ¬ (j : Int) < (zs.length : Int) := by omega
                        go_wp2_with fail
                        refine hpl.mono ?_
                        rintro e u19 ⟨⟨g19, rfl, hq19⟩, hb19⟩
                        have BB : Below wr.heap.size wr u19 := hb19
                        have hin19 := hin18.below hb19
                        clear hpl hb19 hin18
                        -- closedThen
                        go_wp2_with fail
                        refine (hrclz u19 g19 hq19).mono ?_
                        rintro e u20 ⟨⟨ta, tc, T1, tn, rfl, hrt, hot20⟩, hb20⟩
                        have BB20 := BB.trans (hb20.mono BB.size)
                        have hin20 := hin19.below hb20
                        have hq20 := hq19.below hb20
                        have HRT := hidden hrt
                        have lT : T1.length ≤ 16 := hrt.len
                        have mT : T1.length ≤ maxLen := by unfold maxLen; omega
                        clear hrclz hb20 hin19 hq19 BB hrt
                        -- w
                        go_wp2_with fail
                        refine (hclz u20 hin20).mono ?_
                        rintro e u21 ⟨⟨wa, wc, T2, tn2, rfl, hrt2, how21⟩, hb21⟩
                        have hT2 := HRT.out.same hrt2
                        subst hT2
                        have BB21 := BB20.trans (hb21.mono BB20.size)
                        have hin21 := hin20.below hb21
                        have hq21 := hq20.below hb21
                        have hot21 : OwnU u21 u19.heap.size _ _ := owns_below hot20 hb21
                        obtain ⟨_, _, ev, hrw, _⟩ := row_of_owns how21
                        cases ev
                        obtain ⟨_, _, ev, hrt3, _, _⟩ := hot21.row
                        cases ev
                        have hsl := sameLabels_any wa ta wc tc _ _ u21 hrw hrt3 mT
                        rw [decide_eq_true rfl] at hsl
                        clear hclz hb21 hin20 hq20 BB20 hot20 hot21 how21 hrt2 hrw hrt3
                        go_wp2_with fail
                        refine hsl.mono ?_
                        rintro e u22 ⟨rfl, hb22⟩
                        have BB22 := BB21.trans (hb22.mono BB21.size)
                        have hin22 := hin21.below hb22
                        have hq22 := hq21.below hb22
                        clear hsl hb22 hin21 hq21 BB21
                        -- covers of both
                        go_wp2_with fail
                        refine (hcvz u22 hin22).mono ?_
                        rintro e u23 ⟨hb23, v23, C, fa, rfl, hm, hst, hab, ho23⟩
                        have hpe := prsTo_eq hm hst hab
                        rw [HZL.out] at hpe
                        rw [hpe] at ho23
                        rw [HZL.out] at HP2
                        rw [← HP2.out] at ho23
                        obtain ⟨a23, c23, hv23, _, _⟩ := rowP_of_owns ho23
                        subst hv23
                        have BB23 := BB22.trans (hb23.mono BB22.size)
                        have hq23 := hq22.below hb23
                        clear hcvz hb23 hin22 hq22 BB22 hm hst hab hpe
                        go_wp2_with fail
                        refine (hrcvz u23 g19 hq23).mono ?_
                        rintro e u24 ⟨⟨v24, rfl, ho24⟩, hb24⟩
                        rw [← HP2.out] at ho24
                        obtain ⟨a24, c24, hv24, hr24, _⟩ := rowP_of_owns ho24
                        subst hv24
                        have BB24 := BB23.trans (hb24.mono BB23.size)
                        obtain ⟨_, _, ev, hr23, _⟩ := rowP_of_owns (owns_below ho23 hb24)
                        cases ev
                        have hsp := samePairs_any a23 a24 c23 c24 p2 u24 hr23 hr24 mP2
                        clear hrcvz hb24 hq23 BB23 ho23 ho24 hr23 hr24
                        go_wp2_with fail
                        refine hsp.mono ?_
                        rintro e u25 ⟨rfl, hb25⟩
                        have BB25 := BB24.trans (hb25.mono BB24.size)
                        obtain ⟨_, _, ev, hrz, _⟩ := row_of_owns (owns_below hoz18 BB25)
                        cases ev
                        obtain ⟨_, _, ev, hrk, _, _⟩ := OwnU.row (owns_below hok18 BB25)
                        cases ev
                        have hsl := sameLabels_any za ka zc kc _ _ u25 hrz hrk mG
                        rw [decide_eq_true rfl] at hsl
                        clear hsp hb25 BB24 hrz hrk
                        go_wp2_with fail
                        refine hsl.mono ?_
                        rintro e u26 ⟨rfl, hb26⟩
                        have BB26 := BB25.trans (hb26.mono BB25.size)
                        obtain ⟨_, _, ev, hrc, _⟩ := rowP_of_owns (owns_below hoc18 BB26)
                        cases ev
                        obtain ⟨_, _, ev, hrr, _⟩ := rowP_of_owns (owns_below hor18 BB26)
                        cases ev
                        have hsp := samePairs_any cca ra ccc rc pr u26 hrc hrr mP
                        clear hsl hb26 BB25 hrc hrr
                        go_wp2_with fail
                        refine hsp.mono ?_
                        rintro e u27 ⟨rfl, hb27⟩
                        have BB27 := BB26.trans (hb27.mono BB26.size)
                        have BW := hbwj.trans (BB27.mono hbwj.size)
                        clear hsp hb27 BB26
                        go_wp2_with fail
                        refine (awake_any _).mono ?_
                        rintro e u28 ⟨rfl, hb28⟩
                        go_wp2_with fail
                        go_ret
                        exact ⟨rfl, BW.trans (hb28.mono BW.size)⟩

end Go.Proofs.Ythclmkmajlinhab.labelKeepsLists
