/- The law 'there and back, one form, no beginnings', walked. -/
import Derived.Test.YtlhlpofmeeiffaaEg5
import Derived.Test.YtlhlpofmeeiffaaOpenEnt
namespace Go.Proofs.Ytlhlpofmeeiffaa.entryBack
open Go.RowKit

theorem rowB_take {w : World} {a : Option Addr} {zs : List Nat} (h : RowB w a zs) (k : Nat) : RowB w a (zs.take k) := by
  rcases h with h | ⟨b, o, e, h1, h2⟩
  · exact .inl (by rw [List.length_take]; omega)
  · refine .inr ⟨b, o, e, h1, fun i hi => ?_⟩
    rw [List.length_take] at hi
    rw [at0_take (by omega)]
    exact h2 i (by omega)
theorem encE_len {x : En} (h : mayE x = true) : (encE x).length ≤ 4393 := by
  have m := may_parts h
  have hsh : ∀ {f : Nat}, W64 f → (shortL f).length ≤ 10 := fun h => shortL_ten h
  have h1 : (eK x.kind x.key).length ≤ 265 := by
    unfold eK
    cases e : hk x.kind
    · simp
    · have := (m.key1 e).2
      have h10 : (shortL (2 * x.key.size)).length ≤ 10 := hsh (by unfold W64; omega)
      simp only [if_true, List.length_append, strNat_len]; omega
  have h2 : (eS x.kind x.stamp).length ≤ 10 := by
    unfold eS
    cases e : hs x.kind
    · simp
    · have := m.st1 e
      exact hsh (foldI_64 (by omega) (by omega))
  have h3 : (eC x.kind x.count).length ≤ 10 := by
    unfold eC
    cases e : hc x.kind
    · simp
    · have := m.ct1 e
      exact hsh (foldI_64 (by omega) (by omega))
  have h4 : (eD x.kind x.dead).length ≤ 1 := by unfold eD; split <;> simp
  have h5 : (eV x.kind x.val).length ≤ 4106 := by
    unfold eV
    have := m.val
    cases e : hv x.kind
    · simp
    · have h10 : (shortL (2 * x.val.length)).length ≤ 10 := hsh (by unfold W64; omega)
      simp only [if_true, List.length_append]; omega
  unfold encE
  simp only [List.length_cons, List.length_append]
  omega

set_option maxRecDepth 100000 in
set_option maxHeartbeats 4000000 in
theorem walk (t : Ent) (ab : Option Addr) (cb : Nat) (bs : List Nat) (am : Option Addr) (cm : Nat) (ms : List Nat) (w : World) (ht : EntOk w t) (hb' : Came8 w ab cb bs) (hm' : Came8 w am cm ms) :
    Calls Try.prog 7 #[.agg #[.int .i64 t.kind, .int .i64 t.stamp, .int .i64 t.count, .string t.key, .slice t.val.a t.val.p.length t.val.c, .bool t.dead], .slice ab bs.length cb, .slice am ms.length cm] w fun e w' => e = .returned (.bool true) ∧ Below w.heap.size w w' := by
  obtain ⟨kind, stamp, count, key, ⟨a, c, val⟩, dead⟩ := t
  have hrow := ht.val.row
  have hsz : val.length ≤ 140737488355328 := by have := ht.val.size; simp only at this; omega
  have hnil := ht.val.none
  have hv8 := ht.val.all
  simp only at hrow hnil hv8
  have hbrow := hb'.row
  have hb8 := hb'.all
  have hbn := hb'.none
  have hbl : bs.length ≤ 140737488355328 := by have := hb'.size; omega
  have hmrow := hm'.row
  have hm8 := hm'.all
  have hmn := hm'.none
  have hml : ms.length ≤ 140737488351232 := hm'.size
  clear ht hb' hm'
  obtain ⟨M, HMS⟩ : ∃ M, M = ms.length := ⟨_, rfl⟩
  rw [← HMS] at hml ⊢
  replace HMS := hide_it HMS
  obtain ⟨W1, hW1⟩ : ∃ W, W = boxE w ⟨kind, stamp, count, key, val, dead⟩ a c := ⟨_, rfl⟩
  have hb1 : Below w.heap.size w W1 := by rw [hW1]; exact boxE_below _ _ _ _
  have hbx1 : BoxN W1 w.heap.size ⟨kind, stamp, count, key, val, dead⟩ a c := by rw [hW1]; exact heap_alloc_new w _
  have ha := awake_any W1
  go_enter Try.func7, Try.ntmps7
  go_wp2_with fail
  change Calls _ _ _ (boxE w ⟨kind, stamp, count, key, val, dead⟩ a c) _
  rw [← hW1]
  clear hW1
  refine ha.mono ?_
  rintro e w1 ⟨rfl, hb2⟩
  have hbw1 := hb1.trans (hb2.mono hb1.size)
  have hbx2 := hbx1.under hb2 hbx1.lt
  clear ha hb1 hb2 hbx1
  obtain ⟨c0, c1, c2, c3, c4, c5⟩ := hbx2.inE
  simp only at c0 c1 c2 c3 c4 c5
  have hcl := clone10_any ⟨kind, stamp, count, key, val, dead⟩ a c w1 (hrow.below hbw1) hsz hnil
  go_wp2_with fail
  refine hcl.mono ?_
  rintro e w2 ⟨⟨a2, c2', rfl, ho2⟩, hb3⟩
  obtain ⟨_, _, hv2, hrow2, _, _, hn2⟩ := ho2.row
  cases hv2
  have henc := encode_any ⟨kind, stamp, count, key, val, dead⟩ a2 c2' w2 hrow2 hn2
  have hbw2 := hbw1.trans (hb3.mono hbw1.size)
  have hbx3 := hbx2.under hb3 hbx2.lt
  clear hcl ho2 hrow2 hn2 hb3 hbw1 hbx2 c0 c1 c2 c3 c4 c5
  go_wp2_with fail
  refine henc.mono ?_
  rintro e w3 ⟨⟨v3, rfl, ho3⟩, hb4⟩
  have hbw3 := hbw2.trans (hb4.mono hbw2.size)
  have hbx4 := hbx3.under hb4 hbx3.lt
  clear henc hb4 hbx3
  obtain ⟨c0, c1, c2, c3, c4, c5⟩ := hbx4.inE
  simp only at c0 c1 c2 c3 c4 c5
  cases hmay : mayE ⟨kind, stamp, count, key, val, dead⟩
  · have hchk : chkE ⟨kind, stamp, count, key, val, dead⟩ = 100 := by unfold chkE; rw [hmay]; rfl
    rw [hchk]
    clear ho3 hbw2
    have hcl := clone10_any ⟨kind, stamp, count, key, val, dead⟩ a c w3 (hrow.below hbw3) hsz hnil
    go_wp2_with fail
    refine hcl.mono ?_
    rintro e w4 ⟨⟨a4, c4', rfl, ho4⟩, hb5⟩
    have hck := check_any ⟨kind, stamp, count, key, val, dead⟩ a4 c4' w4
    rw [hchk] at hck
    have hbw4 := hbw3.trans (hb5.mono hbw3.size)
    clear hcl ho4 hb5 c0 c1 c2 c3 c4 c5 hbx4 hbw3 hchk hmay
    go_wp2_with fail
    refine hck.mono ?_
    rintro e w5 ⟨rfl, hb6⟩
    have hbw5 := hbw4.trans (hb6.mono hbw4.size)
    clear hck hb6 hbw4
    go_wp2_with (at_builtin; refine wpList_append_row _ rfl _ _ rfl w5.heap.size _ [] rfl (World.ownsRow_nil _ _ _ _) ab cb bs rfl (hbrow.below hbw5) hbn (by simp; omega) (Nat.le_refl _) ?_; intro vc y6 ho6 hg6 hat6)
    have hb6 : Below w5.heap.size w5 y6 := (Below.refl _ _).grown hg6 (Nat.le_refl _) (fun j e => by cases e)
    have hbw6 := hbw5.trans (hb6.mono hbw5.size)
    rw [List.nil_append] at ho6
    obtain ⟨a6, c6, hv6, hrow6, _, _, hn6⟩ := ho6.row
    subst hv6
    have hdec := decode_any a6 c6 bs y6 hrow6 hb8 (by omega) hn6
    clear ho6 hg6 hat6 hb6 hrow6 hn6 hbw5
    refine hdec.mono ?_
    rintro e y7 ⟨⟨a7, c7, rfl, ho7⟩, hb7⟩
    have hbw7 := hbw6.trans (hb7.mono hbw6.size)
    clear hdec hb7 hbw6
    cases hd : decE bs with
    | none =>
      rw [hd] at ho7
      have hz0 : (none : Option En).getD zeroEn = ⟨0, 0, 0, .empty, [], false⟩ := rfl
      rw [hz0] at ho7 ⊢
      simp only [Option.isSome_none] at ho7 ⊢
      obtain ⟨_, _, hv7, _, _, _, hn7⟩ := ho7.row
      cases hv7
      have hs := same_eq ⟨0, 0, 0, .empty, [], false⟩ a7 none c7 0 (boxE y7 ⟨0, 0, 0, .empty, [], false⟩ a7 c7) (.inl rfl) (.inl rfl) hn7 (fun _ => ⟨rfl, rfl⟩)
      have hbw8 := hbw7.trans ((boxE_below y7 ⟨0, 0, 0, .empty, [], false⟩ a7 c7).mono hbw7.size)
      clear ho7 hn7 hbw7
      go_wp2_with fail
      refine hs.mono ?_
      rintro e y9 ⟨rfl, hb9⟩
      have hbw9 := hbw8.trans (hb9.mono hbw8.size)
      clear hs hb9 hbw8
      go_wp2_with fail
      go_ret
      exact ⟨rfl, hbw9⟩
    | some x =>
      rw [hd] at ho7
      have hmx := (dec_some hd).2
      have hfx := dec_form hb8 hd
      simp only [Option.getD_some, Option.isSome_some, if_true] at ho7 ⊢
      obtain ⟨_, _, hv7, hrow7, _, _, hn7⟩ := ho7.row
      cases hv7
      have hb8' := boxE_below y7 x a7 c7
      have hbx8 : BoxN (boxE y7 x a7 c7) y7.heap.size x a7 c7 := heap_alloc_new y7 _
      have henc := encode_any x a7 c7 (boxE y7 x a7 c7) (hrow7.below hb8') hn7
      have hbw8 := hbw7.trans (hb8'.mono hbw7.size)
      have hkc : chkE x = 0 := by unfold chkE; rw [hmx]; rfl
      have HM : Hid (∀ w v b, OwnB w b v (if mayE x then encE x else []) → OwnB w b v bs) := fun w v b h => by rw [hmx, hfx] at h; exact h
      unfold EncTo at henc
      rw [hkc] at henc
      obtain ⟨xk, xs, xc, xy, xv, xd⟩ := x
      clear ho7 hrow7 hn7 hbw7 hd hmx hfx hb8' hkc
      go_wp2_with fail
      refine henc.mono ?_
      rintro e y9 ⟨⟨v9, rfl, ho9⟩, hb9⟩
      have ho9' := HM.out _ _ _ ho9
      obtain ⟨a9, c9, hv9, hrow9, _, _, hn9⟩ := ho9'.row
      subst hv9
      have hbw9 := hbw8.trans (hb9.mono hbw8.size)
      have k1 := conv_row hrow9 hn9
      have k2 := conv_row (hbrow.below hbw9) hbn
      generalize strOf bs = sv at *
      clear henc ho9 ho9' hrow9 hn9 hb9 hbw8 HM hbx8
      go_wp2_with fail
      go_ret
      exact ⟨rfl, hbw9⟩
  · have hchk : chkE ⟨kind, stamp, count, key, val, dead⟩ = 0 := by unfold chkE; rw [hmay]; rfl
    rw [hchk]
    rw [hmay] at ho3
    simp only [if_true] at ho3
    obtain ⟨L, hL⟩ : ∃ L, L = encE ⟨kind, stamp, count, key, val, dead⟩ := ⟨_, rfl⟩
    have hLn := encE_len hmay
    have hL8 := encE_all hmay hv8
    have hLb := hide_it (dec_back hmay)
    have hLl := hide_it (fun n => dec_less (n := n) hmay hL8)
    have hLm := hide_it (fun t => dec_more (t := t) hmay)
    rw [← hL] at ho3 hLn hL8 hLb hLl hLm
    clear hL
    obtain ⟨a3, c3', hv3, hrow3, hc3, _, hn3⟩ := ho3.row
    subst hv3
    have hdec := decode_any a3 c3' L w3 hrow3 hL8 (by omega) hn3
    clear ho3 hbw2
    go_wp2_with fail
    refine hdec.mono ?_
    rintro e w4 ⟨⟨a4, c4', rfl, ho4⟩, hb5⟩
    rw [hLb.out] at ho4 ⊢
    simp only [Option.getD_some, Option.isSome_some, if_true] at ho4 ⊢
    obtain ⟨W5, hW5⟩ : ∃ W, W = w4.alloc (.cells #[.int .i64 kind, .int .i64 stamp, .int .i64 count, .string key, .slice a4 val.length c4', .bool dead] 25) := ⟨_, rfl⟩
    have hb6 : Below w4.heap.size w4 W5 := by rw [hW5]; exact (Below.refl _ _).alloc (Nat.le_refl _) _
    have hbw4 := hbw3.trans (hb5.mono hbw3.size)
    have hbw5 := hbw4.trans (hb6.mono hbw4.size)
    obtain ⟨_, _, hv4, hrow4, _, _, hn4⟩ := (ho4.below hb6).row
    cases hv4
    have hs := same_eq ⟨kind, stamp, count, key, val, dead⟩ a4 a c4' c W5 hrow4 (hrow.below hbw5) hn4 hnil
    have hbx5 := hbx4.under hb5 hbx4.lt
    have hbx6 := hide_it (hbx5.under hb6 hbx5.lt)
    have hrow3' := hide_it ((hrow3.below hb5).below hb6)
    have hlt5 := hbx5.lt
    clear hdec c0 c1 c2 c3 c4 c5 ho4 hb5 hb6 hbw3 hbx4 hrow4 hn4 hbw4 hrow3
    obtain ⟨c0, c1, c2, c3, c4, c5⟩ := hbx5.inE
    simp only at c0 c1 c2 c3 c4 c5
    clear hbx5
    go_wp2_with fail
    rw [← hW5]
    clear hW5 c0 c1 c2 c3 c4 c5 hlt5
    refine hs.mono ?_
    rintro e w6 ⟨rfl, hb7⟩
    have hbw6 := hbw5.trans (hb7.mono hbw5.size)
    have hbx7 := hbx6.out.under hb7 hbx6.out.lt
    have hrow6 := hide_it (hrow3'.out.below hb7)
    clear hs hb7 hbw5 hbx6 hrow3'
    obtain ⟨c0, c1, c2, c3, c4, c5⟩ := hbx7.inE
    simp only at c0 c1 c2 c3 c4 c5
    have hcl := clone10_any ⟨kind, stamp, count, key, val, dead⟩ a c w6 (hrow.below hbw6) hsz hnil
    go_wp2_with fail
    refine hcl.mono ?_
    rintro e w7 ⟨⟨a7, c7, rfl, ho7⟩, hb8'⟩
    have hck := check_any ⟨kind, stamp, count, key, val, dead⟩ a7 c7 w7
    rw [hchk] at hck
    have hbw7 := hbw6.trans (hb8'.mono hbw6.size)
    have hrow7 := hide_it (hrow6.out.below hb8')
    clear hcl ho7 hb8' hbw6 hbx7 hrow6 c0 c1 c2 c3 c4 c5
    go_wp2_with fail
    refine hck.mono ?_
    rintro e w8 ⟨rfl, hb9⟩
    have hbw8 := hbw7.trans (hb9.mono hbw7.size)
    have hrow8 := hide_it (hrow7.out.below hb9)
    clear hck hb9 hbw7 hrow7 hchk hmay hLb
    go_wp2_with fail
    go_loopw [11, 12, 13] (fun n _ _ wr => ∃ k : Nat, k ≤ L.length ∧ n = .int .i64 (k : Int) ∧ Below w8.heap.size w8 wr) (fun n _ _ _ => L.length - (intOf n).toNat)
    case atStart => exact ⟨0, Nat.zero_le _, rfl, Below.refl _ _⟩
    case round =>
      obtain ⟨k, hk, rfl, hbr⟩ := hrel
      by_cases hlt : k < L.length
      · have hd1 : decide ((k : Int) < (L.length : Int)) = true := by simp; omega
        have hi1 : (k : Int) < (L.length : Int) := by omega
        have hkc : k ≤ c3' := by omega
        obtain ⟨P, hP⟩ : ∃ P, P = L.take k := ⟨_, rfl⟩
        have hPl : P.length = k := by rw [hP, List.length_take]; omega
        have hPd : decE P = none := by rw [hP]; exact hLl.out k hlt
        have hP8 : All8 P := by rw [hP]; exact hL8.take k
        have hPr : RowB wr a3 P := by rw [hP]; exact rowB_take (hrow8.out.below hbr) k
        have hPn : a3 = none → P.length = 0 ∧ c3' = 0 := fun e => ⟨by have := hn3 e; omega, (hn3 e).2⟩
        replace hPd := hide_it hPd
        replace hPl := hide_it hPl
        clear hP
        go_wp2_with (at_builtin; refine wpList_append_row _ rfl _ _ rfl wr.heap.size _ [] rfl (World.ownsRow_nil _ _ _ _) a3 c3' P (by rw [hPl.out]; rfl) hPr hPn (by rw [hPl.out]; simp; omega) (Nat.le_refl _) ?_; intro vc y1 ho1 hg1 hat1)
        have hb1 : Below wr.heap.size wr y1 := (Below.refl _ _).grown hg1 (Nat.le_refl _) (fun j e => by cases e)
        have hbr1 := hbr.trans (hb1.mono hbr.size)
        rw [List.nil_append] at ho1
        obtain ⟨a1, c1, hv1, hrow1, _, _, hn1⟩ := ho1.row
        subst hv1
        have hdec := decode_any a1 c1 P y1 hrow1 hP8 (by rw [hPl.out]; omega) hn1
        clear ho1 hg1 hat1 hb1 hrow1 hn1 hPr hPn hP8
        refine hdec.mono ?_
        rintro e y2 ⟨⟨a2', c2'', rfl, ho2⟩, hb2⟩
        rw [hPd.out]
        have hz0 : (none : Option En).getD zeroEn = ⟨0, 0, 0, .empty, [], false⟩ := rfl
        rw [hz0]
        simp only [Option.isSome_none]
        have hbr2 := hbr1.trans (hb2.mono hbr1.size)
        have hbr3 := hide_it (hbr2.alloc (o := .cells #[.int .i64 0, .int .i64 0, .int .i64 0, .string .empty, .slice a2' 0 c2'', .bool false] 25) hbr2.size)
        clear hdec ho2 hb2 hbr1 hbr2 hz0 hPd hPl hbr
        go_wp2_with fail
        go_roundw
        case rel => exact ⟨k + 1, by omega, by go_num, hbr3.out⟩
        case measure => simp [intOf]; omega
      · have hd1 : decide ((k : Int) < (L.length : Int)) = false := by simp; omega
        have hbw9 := hbw8.trans (hbr.mono hbw8.size)
        by_cases hm0 : M = 0
        · have hms : ms = [] := List.eq_nil_of_length_eq_zero (by rw [← HMS.out]; exact hm0)
          subst hm0
          clear hLl hLm hk
          go_wp2_with (at_builtin; refine wpList_append_row _ rfl _ _ rfl wr.heap.size _ [] rfl (World.ownsRow_nil _ _ _ _) ab cb bs rfl (hbrow.below hbw9) hbn (by simp; omega) (Nat.le_refl _) ?_; intro vc y6 ho6 hg6 hat6)
          have hb6 : Below wr.heap.size wr y6 := (Below.refl _ _).grown hg6 (Nat.le_refl _) (fun j e => by cases e)
          have hbw6 := hbw9.trans (hb6.mono hbw9.size)
          rw [List.nil_append] at ho6
          obtain ⟨a6, c6, hv6, hrow6, _, _, hn6⟩ := ho6.row
          subst hv6
          have hdec := decode_any a6 c6 bs y6 hrow6 hb8 (by omega) hn6
          clear ho6 hg6 hat6 hb6 hrow6 hn6 hbw9
          refine hdec.mono ?_
          rintro e y7 ⟨⟨a7, c7, rfl, ho7⟩, hb7⟩
          have hbw7 := hbw6.trans (hb7.mono hbw6.size)
          clear hdec hb7 hbw6
          cases hd : decE bs with
          | none =>
            rw [hd] at ho7
            have hz0 : (none : Option En).getD zeroEn = ⟨0, 0, 0, .empty, [], false⟩ := rfl
            rw [hz0] at ho7 ⊢
            simp only [Option.isSome_none] at ho7 ⊢
            obtain ⟨_, _, hv7, _, _, _, hn7⟩ := ho7.row
            cases hv7
            have hs := same_eq ⟨0, 0, 0, .empty, [], false⟩ a7 none c7 0 (boxE y7 ⟨0, 0, 0, .empty, [], false⟩ a7 c7) (.inl rfl) (.inl rfl) hn7 (fun _ => ⟨rfl, rfl⟩)
            have hbw8 := hbw7.trans ((boxE_below y7 ⟨0, 0, 0, .empty, [], false⟩ a7 c7).mono hbw7.size)
            clear ho7 hn7 hbw7
            go_wp2_with fail
            refine hs.mono ?_
            rintro e y9 ⟨rfl, hb9⟩
            have hbw9 := hbw8.trans (hb9.mono hbw8.size)
            clear hs hb9 hbw8
            go_wp2_with fail
            go_ret
            exact ⟨rfl, hbw9⟩
          | some x =>
            rw [hd] at ho7
            have hmx := (dec_some hd).2
            have hfx := dec_form hb8 hd
            simp only [Option.getD_some, Option.isSome_some, if_true] at ho7 ⊢
            obtain ⟨_, _, hv7, hrow7, _, _, hn7⟩ := ho7.row
            cases hv7
            have hb8' := boxE_below y7 x a7 c7
            have hbx8 : BoxN (boxE y7 x a7 c7) y7.heap.size x a7 c7 := heap_alloc_new y7 _
            have henc := encode_any x a7 c7 (boxE y7 x a7 c7) (hrow7.below hb8') hn7
            have hbw8 := hbw7.trans (hb8'.mono hbw7.size)
            have hkc : chkE x = 0 := by unfold chkE; rw [hmx]; rfl
            have HM : Hid (∀ w v b, OwnB w b v (if mayE x then encE x else []) → OwnB w b v bs) := fun w v b h => by rw [hmx, hfx] at h; exact h
            unfold EncTo at henc
            rw [hkc] at henc
            obtain ⟨xk, xs, xc, xy, xv, xd⟩ := x
            clear ho7 hrow7 hn7 hbw7 hd hmx hfx hb8' hkc
            go_wp2_with fail
            refine henc.mono ?_
            rintro e y9 ⟨⟨v9, rfl, ho9⟩, hb9⟩
            have ho9' := HM.out _ _ _ ho9
            obtain ⟨a9, c9, hv9, hrow9, _, _, hn9⟩ := ho9'.row
            subst hv9
            have hbw9 := hbw8.trans (hb9.mono hbw8.size)
            have k1 := conv_row hrow9 hn9
            have k2 := conv_row (hbrow.below hbw9) hbn
            generalize strOf bs = sv at *
            clear henc ho9 ho9' hrow9 hn9 hb9 hbw8 HM hbx8
            go_wp2_with fail
            go_ret
            exact ⟨rfl, hbw9⟩
        · have hMp : 0 < M := by omega
          have hd2 : decide ((0 : Int) < (M : Int)) = true := decide_eq_true (by omega)
          have hmne : ms ≠ [] := fun e => hm0 (by rw [HMS.out, e]; rfl)
          have hLd := hide_it (hLm.out ms hmne)
          have hA8 : All8 (L ++ ms) := fun z hz => by rcases List.mem_append.1 hz with h | h; exact hL8 z h; exact hm8 z h
          have hrowL := hrow8.out.below hbr
          have hrowM := hmrow.below hbw9
          clear hLl hLm hk hm0 hmne
          go_wp2_with (at_builtin; first | (refine wpList_append_row _ rfl _ _ rfl wr.heap.size _ [] rfl (World.ownsRow_nil _ _ _ _) a3 c3' L rfl hrowL hn3 (by simp; omega) (Nat.le_refl _) ?_; intro vc y1 ho1 hg1 hat1; rw [List.nil_append] at ho1; have hb1 : Below wr.heap.size wr y1 := (Below.refl _ _).grown hg1 (Nat.le_refl _) (fun j e => by cases e)) | (refine wpList_appendB _ rfl _ _ rfl wr.heap.size _ L rfl (OwnS.of_row ho1) am cm ms (by rw [← HMS.out]; rfl) (hrowM.below hb1) hmn (by rw [← HMS.out]; omega) hb1.size ?_; intro vd y2 ho2 hg2 hat2))
          have hb2 : Below wr.heap.size wr y2 := hb1.grown hg2 hb1.size (fun j e => ((OwnS.of_row ho1).inside j e).1)
          have hbw10 := hbw9.trans (hb2.mono hbw9.size)
          obtain ⟨a2', c2'', hv2, hrow2, hcp2, _, hn2⟩ := ho2.row
          subst hv2
          have hdec := decode_any a2' c2'' (L ++ ms) y2 hrow2 hA8 (by rw [List.length_append, ← HMS.out]; omega) hn2
          clear ho1 hg1 hat1 hb1 ho2 hg2 hat2 hb2 hrow2 hn2 hrowL hrowM hA8 hbw9 hbr
          refine hdec.mono ?_
          rintro e y3 ⟨⟨a3', c3'', rfl, ho3⟩, hb3⟩
          rw [hLd.out]
          have hz0 : (none : Option En).getD zeroEn = ⟨0, 0, 0, .empty, [], false⟩ := rfl
          rw [hz0]
          simp only [Option.isSome_none]
          have hbw11 := hbw10.trans (hb3.mono hbw10.size)
          have hbw12 := hbw11.alloc (o := .cells #[.int .i64 0, .int .i64 0, .int .i64 0, .string .empty, .slice a3' 0 c3'', .bool false] 25) hbw11.size
          clear hdec ho3 hb3 hbw10 hz0 hLd
          go_wp2_with (at_builtin; refine wpList_append_row _ rfl _ _ rfl (y3.alloc (.cells #[.int .i64 0, .int .i64 0, .int .i64 0, .string .empty, .slice a3' 0 c3'', .bool false] 25)).heap.size _ [] rfl (World.ownsRow_nil _ _ _ _) ab cb bs rfl (hbrow.below hbw12) hbn (by simp; omega) (Nat.le_refl _) ?_; intro vc y6 ho6 hg6 hat6)
          have hb6 : Below (y3.alloc (.cells #[.int .i64 0, .int .i64 0, .int .i64 0, .string .empty, .slice a3' 0 c3'', .bool false] 25)).heap.size (y3.alloc (.cells #[.int .i64 0, .int .i64 0, .int .i64 0, .string .empty, .slice a3' 0 c3'', .bool false] 25)) y6 := (Below.refl _ _).grown hg6 (Nat.le_refl _) (fun j e => by cases e)
          have hbw6 := hbw12.trans (hb6.mono hbw12.size)
          rw [List.nil_append] at ho6
          obtain ⟨a6, c6, hv6, hrow6, _, _, hn6⟩ := ho6.row
          subst hv6
          have hdec := decode_any a6 c6 bs y6 hrow6 hb8 (by omega) hn6
          clear ho6 hg6 hat6 hb6 hrow6 hn6 hbw12
          refine hdec.mono ?_
          rintro e y7 ⟨⟨a7, c7, rfl, ho7⟩, hb7⟩
          have hbw7 := hbw6.trans (hb7.mono hbw6.size)
          clear hdec hb7 hbw6
          cases hd : decE bs with
          | none =>
            rw [hd] at ho7
            have hz0 : (none : Option En).getD zeroEn = ⟨0, 0, 0, .empty, [], false⟩ := rfl
            rw [hz0] at ho7 ⊢
            simp only [Option.isSome_none] at ho7 ⊢
            obtain ⟨_, _, hv7, _, _, _, hn7⟩ := ho7.row
            cases hv7
            have hs := same_eq ⟨0, 0, 0, .empty, [], false⟩ a7 none c7 0 (boxE y7 ⟨0, 0, 0, .empty, [], false⟩ a7 c7) (.inl rfl) (.inl rfl) hn7 (fun _ => ⟨rfl, rfl⟩)
            have hbw8 := hbw7.trans ((boxE_below y7 ⟨0, 0, 0, .empty, [], false⟩ a7 c7).mono hbw7.size)
            clear ho7 hn7 hbw7
            go_wp2_with fail
            refine hs.mono ?_
            rintro e y9 ⟨rfl, hb9⟩
            have hbw9 := hbw8.trans (hb9.mono hbw8.size)
            clear hs hb9 hbw8
            go_wp2_with fail
            go_ret
            exact ⟨rfl, hbw9⟩
          | some x =>
            rw [hd] at ho7
            have hmx := (dec_some hd).2
            have hfx := dec_form hb8 hd
            simp only [Option.getD_some, Option.isSome_some, if_true] at ho7 ⊢
            obtain ⟨_, _, hv7, hrow7, _, _, hn7⟩ := ho7.row
            cases hv7
            have hb8' := boxE_below y7 x a7 c7
            have hbx8 : BoxN (boxE y7 x a7 c7) y7.heap.size x a7 c7 := heap_alloc_new y7 _
            have henc := encode_any x a7 c7 (boxE y7 x a7 c7) (hrow7.below hb8') hn7
            have hbw8 := hbw7.trans (hb8'.mono hbw7.size)
            have hkc : chkE x = 0 := by unfold chkE; rw [hmx]; rfl
            have HM : Hid (∀ w v b, OwnB w b v (if mayE x then encE x else []) → OwnB w b v bs) := fun w v b h => by rw [hmx, hfx] at h; exact h
            unfold EncTo at henc
            rw [hkc] at henc
            obtain ⟨xk, xs, xc, xy, xv, xd⟩ := x
            clear ho7 hrow7 hn7 hbw7 hd hmx hfx hb8' hkc
            go_wp2_with fail
            refine henc.mono ?_
            rintro e y9 ⟨⟨v9, rfl, ho9⟩, hb9⟩
            have ho9' := HM.out _ _ _ ho9
            obtain ⟨a9, c9, hv9, hrow9, _, _, hn9⟩ := ho9'.row
            subst hv9
            have hbw9 := hbw8.trans (hb9.mono hbw8.size)
            have k1 := conv_row hrow9 hn9
            have k2 := conv_row (hbrow.below hbw9) hbn
            generalize strOf bs = sv at *
            clear henc ho9 ho9' hrow9 hn9 hb9 hbw8 HM hbx8
            go_wp2_with fail
            go_ret
            exact ⟨rfl, hbw9⟩
end Go.Proofs.Ytlhlpofmeeiffaa.entryBack
