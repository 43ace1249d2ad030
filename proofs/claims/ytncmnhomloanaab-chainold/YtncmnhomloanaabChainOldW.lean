/- The law on walks while the chain goes on, walked. -/
import Derived.Test.YtncmnhomloanaabOl2
namespace Go.Proofs.Ytncmnhomloanaab.chainOld
open Go.RowKit Go.Shelf

attribute [local go_sem] Oper.semAt_some

set_option maxRecDepth 100000 in
set_option maxHeartbeats 8000000 in
theorem walk (a0 : Option Addr) (n0 c0 : Nat) (A0 : Nat → Stc) (h : Int) (_ : -9223372036854775808 ≤ h ∧ h ≤ 9223372036854775807) (more : Int) (hmr : -9223372036854775808 ≤ more ∧ more ≤ 9223372036854775807) (w : World) (ha : CameStc w a0 n0 A0) :
    Calls Try.prog 3 #[.slice a0 n0 c0, .int .i64 h, .int .i64 more] w fun e w' => e = .returned (.bool true) ∧ Below w.heap.size w w' := by
  have hfn : ∀ (fn : Fn) (a b : Array Value) (w : World), (binOp .eql 28 (.func fn a b) .nilFunc).run Try.prog w = .ok (.bool false) w := fun _ _ _ _ => rfl
  have hn0 := ha.size
  obtain ⟨U0, hU0⟩ : ∃ U, U = ((w.alloc (.cells #[.int .i64 h] 3)).alloc (.cells #[.int .i64 more] 3)).alloc (.cells #[.bool false] 4) := ⟨_, rfl⟩
  have hz0 : U0.heap.size = w.heap.size + 3 := by rw [hU0]; simp
  have hb0 : Below w.heap.size w U0 := by rw [hU0]; exact (((Below.refl _ _).alloc (Nat.le_refl _) _).alloc (by simp) _).alloc (by simp; omega) _
  have bH0 : Boxed U0 w.heap.size 3 (.int .i64 h) := by rw [hU0]; exact ((Boxed.new w _ _).alloc _).alloc _
  have bM0 : Boxed U0 (w.heap.size + 1) 3 (.int .i64 more) := by
    have := (Boxed.new (w.alloc (.cells #[.int .i64 h] 3)) 3 (.int .i64 more)).alloc (.cells #[.bool false] 4)
    rw [hU0]; simpa using this
  have bR0 : Boxed U0 (w.heap.size + 2) 4 (.bool false) := by
    have := Boxed.new ((w.alloc (.cells #[.int .i64 h] 3)).alloc (.cells #[.int .i64 more] 3)) 4 (.bool false)
    rw [hU0]; simpa using this
  have hpl := played_any a0 n0 c0 A0 U0 (ha.below hb0)
  have hxl := runL_len A0 n0
  clear ha
  refine (callsIn_wide (n := 3)).1 ?_
  refine callsIn_of_wp_marks Try.func3 rfl trivial ?_ rfl
  simp only [Try.ntmps3, List.size_toArray, List.length_cons, List.length_nil, Nat.reduceAdd, Nat.reduceSub, Array.replicate_succ, Array.replicate_zero, List.push_toArray, List.append_toArray, List.nil_append, List.cons_append]
  gi_wp2_with fail
  rw [← hU0]
  clear hU0
  refine ⟨trivial, (callsIn_wide.2 hpl).mono ?_⟩
  rintro e w1 ⟨⟨p, v0, rfl, hH1, hF1⟩, b1⟩
  obtain ⟨X, hX⟩ : ∃ X, X = runL A0 n0 := ⟨_, rfl⟩
  rw [← hX] at hH1 hxl
  obtain ⟨a, cap, ev0, _, _, _, _, hob0⟩ := hH1.row
  have hF1l : ∀ j, Fc p v0 j → j < w1.heap.size := fun j hj => by
    rcases hj with e | e
    · exact e ▸ hH1.lt
    · exact (OwnS.inside hH1.own j e).2
  obtain ⟨F0, hF0⟩ : ∃ F0, F0 = Fc p v0 := ⟨_, rfl⟩
  have hfp : F0 p := by rw [hF0]; exact .inl rfl
  have haF : ∀ g o, a = some ⟨g, o, none⟩ → F0 g := fun g o e => by rw [hF0]; exact .inr ((hob0 g).2 ⟨o, e⟩)
  rw [← hF0] at hH1 hF1 hF1l
  obtain ⟨U1, hU1⟩ : ∃ U, U = w1.alloc (.cells #[.pointer (some ⟨p, 0, none⟩)] 23) := ⟨_, rfl⟩
  have b11 : Below w1.heap.size w1 U1 := by rw [hU1]; exact (Below.refl _ _).alloc (Nat.le_refl _) _
  have hz1 : U1.heap.size = w1.heap.size + 1 := by rw [hU1]; simp
  have bC1 : Boxed U1 w1.heap.size 23 (.pointer (some ⟨p, 0, none⟩)) := by rw [hU1]; exact Boxed.new w1 _ _
  have b01 := b1.trans (b11.mono b1.size)
  have hH1 := hH1.below b11
  have hwk := walk_any hH1 (by omega) (-1) (by omega)
  rw [show walkL X (-1) = X.reverse by unfold walkL; simp, List.length_reverse] at hwk
  clear hpl hX hob0 hF0 b11 b1
  gi_wp2_with fail
  rw [← hU1]
  clear hU1
  refine ⟨trivial, (callsIn_wide.2 hwk).mono ?_⟩
  rintro e w2 ⟨⟨vb, rfl, hob⟩, b2⟩
  obtain ⟨ab, cbb, evb, hnb, _, _, _⟩ := hob.open
  subst evb
  have hvb : ∀ j, (Value.slice ab X.length cbb).ownBlock = some j → U1.heap.size ≤ j ∧ j < w2.heap.size := hob.inside
  obtain ⟨U2, hU2⟩ : ∃ U, U = w2.alloc (.cells #[.slice ab X.length cbb] 25) := ⟨_, rfl⟩
  have b22 : Below w2.heap.size w2 U2 := by rw [hU2]; exact (Below.refl _ _).alloc (Nat.le_refl _) _
  have hz2 : U2.heap.size = w2.heap.size + 1 := by rw [hU2]; simp
  have bB2 : Boxed U2 w2.heap.size 25 (.slice ab X.length cbb) := by rw [hU2]; exact Boxed.new w2 _ _
  have bC2 : Boxed w2 w1.heap.size 23 (.pointer (some ⟨p, 0, none⟩)) := bC1.kept (grown_none b2) (by simp)
  have cC2 := bC2.cell
  have lC2 := bC2.lt
  obtain ⟨U3, hU3⟩ : ∃ U, U = U2.alloc (.cells #[.pointer (some ⟨p, 0, none⟩)] 23) := ⟨_, rfl⟩
  have b33 : Below U2.heap.size U2 U3 := by rw [hU3]; exact (Below.refl _ _).alloc (Nat.le_refl _) _
  have hz3 : U3.heap.size = U2.heap.size + 1 := by rw [hU3]; simp
  have bQ3 : Boxed U3 U2.heap.size 23 (.pointer (some ⟨p, 0, none⟩)) := by rw [hU3]; exact Boxed.new U2 _ _
  have hall := all_any (some ⟨p, 0, none⟩) U2
  rw [← hU3] at hall
  have hzz2 := b2.size
  have b13 : Below U1.heap.size U1 U3 := (b2.trans (b22.mono b2.size)).trans (b33.mono (by omega))
  have haw := awake_any U3
  clear hwk hU3
  gi_wp2_with fail
  rw [← hU2]
  clear hU2
  refine ⟨trivial, (callsIn_wide.2 hall).mono ?_⟩
  rintro e w3 ⟨rfl, hw3⟩
  obtain rfl := hw3.symm
  clear hall hw3
  gi_wp2_with fail
  refine ⟨trivial, (callsIn_wide.2 haw).mono ?_⟩
  rintro e w4 ⟨rfl, b4⟩
  obtain ⟨U4, hU4⟩ : ∃ U, U = w4.alloc (.cells #[.int .i64 0] 3) := ⟨_, rfl⟩
  have b44 : Below w4.heap.size w4 U4 := by rw [hU4]; exact (Below.refl _ _).alloc (Nat.le_refl _) _
  have hz4 : U4.heap.size = w4.heap.size + 1 := by rw [hU4]; simp
  have bA4 : Boxed U4 w4.heap.size 3 (.int .i64 ((0 : Nat) : Int)) := by rw [hU4]; exact Boxed.new w4 _ _
  have hzz4 := b4.size
  have b34 : Below U3.heap.size U3 U4 := b4.trans (b44.mono b4.size)
  have hzz1 := b01.size
  obtain ⟨E, hE⟩ : ∃ E, E = U4.heap.size := ⟨_, rfl⟩
  obtain ⟨bh, hbh⟩ : ∃ z, z = w.heap.size := ⟨_, rfl⟩
  obtain ⟨bm, hbm⟩ : ∃ z, z = w.heap.size + 1 := ⟨_, rfl⟩
  obtain ⟨br, hbr⟩ : ∃ z, z = w.heap.size + 2 := ⟨_, rfl⟩
  obtain ⟨bc, hbc⟩ : ∃ z, z = w1.heap.size := ⟨_, rfl⟩
  obtain ⟨bb, hbb⟩ : ∃ z, z = w2.heap.size := ⟨_, rfl⟩
  obtain ⟨bq, hbq⟩ : ∃ z, z = U2.heap.size := ⟨_, rfl⟩
  obtain ⟨ba, hba⟩ : ∃ z, z = w4.heap.size := ⟨_, rfl⟩
  have b14 : Below U1.heap.size U1 U4 := b13.trans (b34.mono b13.size)
  have b04 : Below U0.heap.size U0 U4 := b01.trans (b14.mono hzz1)
  have kb : ∀ {B t u} {z1 z2 : World}, Boxed z1 B t u → Below z1.heap.size z1 z2 → Boxed z2 B t u := fun h1 h2 => h1.kept (grown_none h2) (by simp)
  have hC : OlC w F0 E p bh bm br bc bb ba bq a (.slice ab X.length cbb) := by
    refine ⟨fun b hb => ?_, fun j hj => ⟨by have := hF1 j hj; omega, by have := hF1l j hj; omega⟩, hfp, fun j hj => ⟨by have := hvb j hj; omega, fun e => by have := hvb j hj; have := hF1l j e; omega⟩, by omega, fun e => by have := hvb _ e; omega⟩
    have hb2 : w.heap.size ≤ b ∧ b < E ∧ ¬ F0 b := by
      refine ⟨by omega, by omega, fun e => ?_⟩
      have h1 := hF1 b e
      have h2 := hF1l b e
      omega
    exact ⟨hb2.1, hb2.2.1, hb2.2.2, fun o e => hb2.2.2 (haF b o e)⟩
  have hS : Ol w U4 F0 E p bh bm br bc bb ba bq h more X a cap (.slice ab X.length cbb) ([] : List Lk).length :=
    ⟨by rw [hbh]; exact kb bH0 b04, by rw [hbm]; exact kb bM0 b04, by rw [hbr]; exact kb bR0 b04, by rw [hbc]; exact kb bC1 b14, by rw [hbb]; exact kb bB2 ((b33.trans (b34.mono b33.size))), by rw [hba]; exact bA4, by rw [hbq]; exact kb bQ3 b34,
      (OwnS.mono hob (Nat.zero_le _)).below (b22.trans ((b33.trans (b34.mono b33.size)).mono b22.size)), ⟨v0, (hH1.below b14).mono (fun j hj => .inl hj)⟩, fun _ => ev0 ▸ hH1.below b14, hb0.trans (b04.mono hb0.size)⟩
  obtain ⟨hrow4, hcap4⟩ : Hn U4 (Gr F0 E) p (.slice a X.length cap) X ∧ True := ⟨ev0 ▸ (hH1.below b14).mono (fun j hj => .inl hj), trivial⟩
  have hEw : w.heap.size ≤ U4.heap.size := by omega
  have hX36 : X.length ≤ 3518437208780 := by omega
  have hEU : E = U4.heap.size := hE
  have HBR : Hid (w.heap.size + 1 + 1 = br) := hide_it (by omega)
  have HBM : Hid (w.heap.size + 1 = bm) := hide_it (by omega)
  have HBQ : Hid (w2.heap.size + 1 = bq) := hide_it (by omega)
  replace hbh := hide_it hbh
  replace hbc := hide_it hbc
  replace hbb := hide_it hbb
  replace hba := hide_it hba
  clear hbm hbr hbq
  clear bH0 bM0 bR0 bC1 bB2 bQ3 b4 b44 b34 b33 b22 b2 b13 b14 b04 b01 hob hvb hH1 hF1 hF1l haF hfp kb hzz1 hzz2 hzz4 hz0 hz1 hz2 hz3 hz4 bC2 cC2 lC2 haw hE hb0 bA4
  gi_wp2_with fail
  rw [← hU4, HBR.out, HBM.out, HBQ.out, ← hbh.out, ← hbc.out, ← hbb.out, ← hba.out]
  clear hU4
  gi_wp2_with fail
  generalize hact : ({ tmps := _, defers := [] } : Act) = act0
  refine range_tellsA (F := Fence.wide) rfl (by omega) (gf := 17) (lb := #[.pointer (some ⟨bq, 0, none⟩)]) (by rw [← hact]; rfl) trivial (enters_of Try.func17 (by kernel_rfl) rfl)
    (tellsL _ bq p (Gr F0 E) a cap X U4 hS.cQ hrow4 (by omega) (by omega)) (Below.refl _ _) kpL_t (fun W l o o' _ h1 h2 => kpL_b W l o o' h1 h2) (fun _ _ _ _ _ _ _ _ _ _ h3 => h3) (fun _ => rfl)
    (fun pre W => Ol w W F0 E p bh bm br bc bb ba bq h more X a cap (.slice ab X.length cbb) pre.length) (fun _ _ _ => False) (Ol.from hEw) (fun _ _ _ _ _ h _ _ => h) hS
    (fun x => .cells #[.int .i64 x.n, .string x.v, .bool x.d] 32) (fun x b => { tmps := (act0.tmps.setIfInBounds 27 (lkV x)).setIfInBounds 11 (.pointer (some ⟨b, 0, none⟩)), defers := [] }) (fun W o => ⟨by simp, fun r => r.below ((Below.refl _ _).alloc (Nat.le_refl _) _)⟩) (fun _ _ _ _ _ h => h) ?assign ?body ?done ?stop
  case assign =>
    subst hact
    intro l x W K hK
    unfold lkV at *
    gi_wp2
    simp only [List.setIfInBounds_toArray, List.set_cons_zero, List.set_cons_succ] at hK
    exact hK
  case body =>
    subst hact
    rintro l b pre x Z W hlw hZb hbx ⟨o, hlo, hoc⟩ hI hg hG
    have hIW := hI.grown hg (fun j e => by cases e; exact ⟨by omega, o, hlo, hoc⟩)
    have hWE : E ≤ W.heap.size := by
      have h1 := (Array.getElem?_eq_some_iff.1 hlo).1
      have h2 := hg.size
      omega
    obtain ⟨hG1, hG2, hG3⟩ := hG
    have hxl2 : (lk X.reverse pre.length) = x := hG3.symm
    have hob := hIW.ob
    have hob' : OwnS W 0 32 3 (.slice ab X.length cbb) X.reverse.length (celL X.reverse) := by rw [List.length_reverse]; exact hob
    obtain ⟨ab2, cb2, ev2, hrb, _⟩ := own_row hob'
    rw [List.length_reverse] at ev2
    cases ev2
    obtain ⟨g, f, rfl, lg, d0, d1, d2⟩ := hrb.here (i := pre.length) (by rw [List.length_reverse]; exact hG2)
    rw [hxl2] at d0 d1 d2
    have x0 : W.cell? ⟨b, 0, none⟩ = some (.int .i64 x.n) := cell_of_row _ _ _ _ _ _ hbx
    have x1 : W.cell? ⟨b, 1, none⟩ = some (.string x.v) := cell_of_row _ _ _ _ _ _ hbx
    have x2 : W.cell? ⟨b, 2, none⟩ = some (.bool x.d) := cell_of_row _ _ _ _ _ _ hbx
    have cA := hIW.cA.cell
    have cB := hIW.cB.cell
    have hki : (pre.length : Int) < (X.length : Int) := by omega
    have hkd : decide (X.length ≤ pre.length) = false := decide_eq_false (by omega)
    have hki2 : pre.length < X.length := hG2
    have e1 : (x.n == x.n) = true := by simp
    have e2 : (x.v.toList == x.v.toList) = true := by simp
    have e3 : (x.d == x.d) = true := by simp
    have HI := hide_it hIW
    have HB := hide_it hbx
    clear hI hIW hbx hg hlo hG1 hG3 hob hob' hrb hxl2 hS hrow4
    unfold lkV
    gi_wp2_with fail
    refine inRound.region_quiet (by kernel_rfl) (by kernel_rfl) ?_
    repeat (gi_big_quiet_step (fail))
    refine wpQuietIn_nil ?_
    rintro _ ⟨nq, rfl⟩
    have hcd : Chg F0 W (W.drewN nq) := (Chg.refl _ W).drewN nq
    have hbd : Below W.heap.size W (W.drewN nq) := ((Chg.refl (fun _ => False) W).drewN nq).below (fun _ e => e.elim) (Nat.le_refl _)
    have hgd : W.grownBy (W.drewN nq) none := Chg.grown (S := fun _ => False) ((Chg.refl _ W).drewN nq) (fun _ e => e.elim)
    have HD := hide_it (HI.out.grown hgd (fun j e => by cases e))
    generalize W.drewN nq = WD at hcd hbd hgd HD ⊢
    have hDE : E ≤ WD.heap.size := Nat.le_trans hWE hcd.size
    have cA := HD.out.cA.cell
    have cH := HD.out.cH.cell
    have cC := HD.out.cC.cell
    have fA := HD.out.cA.frozen
    clear cB x0 x1 x2 d0 d1 d2 hgd
    by_cases hk0 : pre.length = 0
    · have hk1 : ((pre.length : Int) = 0) := by omega
      have htn := turn_any (HD.out.h0 hk0) hC.fp (by omega) hDE h more hmr.2
      gi_wp2_with fail
      refine ⟨trivial, (CallsIn.inRound l (callsIn_wide.2 htn)).mono ?_⟩
      rintro e w1 ⟨⟨z1, rfl⟩, hc1, hadd⟩
      have off : ∀ {b t u}, Boxed WD b t u → (b = bh ∨ b = bm ∨ b = br ∨ b = bc ∨ b = bb ∨ b = ba ∨ b = bq) → Boxed w1 b t u := fun hb hm => (hc1.block _ hb.lt fun e => (hC.box _ hm).2.2.1 e).trans hb
      have cM1 := (off HD.out.cM (by simp)).cell
      have cC1 := (off HD.out.cC (by simp)).cell
      clear htn hc1
      gi_wp2_with fail
      refine ⟨trivial, (CallsIn.inRound l (callsIn_wide.2 hadd)).mono ?_⟩
      rintro e w2' ⟨⟨z2, rfl⟩, hrow, hn2, hc2⟩
      have cA2 : Boxed w2' ba 3 (.int .i64 (pre.length : Int)) := (hc2.block _ HD.out.cA.lt fun e => (hC.box ba (by simp)).2.2.1 e).trans HD.out.cA
      have cA3 := cA2.cell
      have fA3 := cA2.frozen
      gi_wp2_with fail
      have ht := HD.out.tick hC hc2 (k' := 1) (show ∃ v, Hn w2' (Gr F0 E) p v (stY X h more 1) from hn2) (by omega)
      have e5 : (pre ++ [x]).length = 1 := by simp [hk0]
      refine ⟨kept_from hC (by omega) (hcd.trans hc2 fun _ _ e => e) _, kept_row hC (hcd.trans hc2 fun _ _ e => e) (fun _ => hrow) _, ?_⟩
      show Ol w _ F0 E p bh bm br bc bb ba bq h more X a cap _ (pre ++ [x]).length
      rw [e5]
      exact ht
    · have hk1 : ¬ ((pre.length : Int) = 0) := by omega
      gi_wp2_with fail
      have ht := HD.out.tick hC (Chg.refl F0 WD) (k' := pre.length + 1) (by
        have h7 := HD.out.hn
        unfold stY at h7 ⊢
        rw [if_neg hk0] at h7
        rw [if_neg (by omega)]
        exact h7) (by omega)
      have e5 : (pre ++ [x]).length = pre.length + 1 := by simp
      refine ⟨kept_from hC (by omega) hcd _, kept_row hC hcd (fun r => r.below hbd) _, ?_⟩
      show Ol w _ F0 E p bh bm br bc bb ba bq h more X a cap _ (pre ++ [x]).length
      rw [e5]
      exact ht
  case done =>
    subst hact
    rintro D ys W hD hS hI hK
    have hlen : ys.length = X.length := by rw [hS]; simp
    replace hI : Ol w W F0 E p bh bm br bc bb ba bq h more X a cap (.slice ab X.length cbb) ys.length := hI
    rw [hlen] at hI
    clear hS hlen
    have cA := hI.cA.cell
    have cB := hI.cB.cell
    have cC := hI.cC.cell
    obtain ⟨v5, hn5⟩ := hI.hn
    obtain ⟨Y, hY⟩ : ∃ Y, Y = stY X h more X.length := ⟨_, rfl⟩
    have hYl : Y.length ≤ X.length + 1 := hY ▸ stY_len X h more X.length
    rw [← hY] at hn5
    have hwk := walk_any hn5 (by omega) (-1) (by omega)
    rw [show walkL Y (-1) = Y.reverse by unfold walkL; simp, List.length_reverse] at hwk
    have hDl : D < W.heap.size := (Array.getElem?_eq_some_iff.1 hK).1
    have HI := hide_it hI
    have HN5 := hide_it hn5
    clear hI hn5 hY
    gi_wp2_with fail
    refine ⟨trivial, (callsIn_wide.2 hwk).mono ?_⟩
    rintro e w5 ⟨⟨vn, rfl, hob⟩, b5⟩
    obtain ⟨an, cn, evn, hnn, _, _, _⟩ := hob.open
    subst evn
    have b55 : Below W.heap.size W (w5.alloc (.cells #[.slice an Y.length cn] 25)) := b5.trans (((Below.refl _ _).alloc (Nat.le_refl _) _).mono b5.size)
    have bA5 := HI.out.cA.kept (grown_none b55) (by simp)
    have bR5 := HI.out.cR.kept (grown_none b55) (by simp)
    have bQ5 := HI.out.cQ.kept (grown_none b55) (by simp)
    have bN5 : Boxed (w5.alloc (.cells #[.slice an Y.length cn] 25)) w5.heap.size 25 (.slice an Y.length cn) := Boxed.new _ _ _
    have cA5 := bA5.cell
    have fA5 := bA5.frozen
    clear hwk
    gi_wp2_with fail
    obtain ⟨bn, hbn⟩ : ∃ z, z = w5.heap.size := ⟨_, rfl⟩
    obtain ⟨V, hV⟩ : ∃ V, V = (w5.alloc (.cells #[.slice an Y.length cn] 25)).setCell ⟨ba, 0, none⟩ (.int .i64 0) := ⟨_, rfl⟩
    rw [← hV, ← hbn]
    rw [← hbn] at bN5
    have hWE : E ≤ W.heap.size := by omega
    have hbaE := hC.box ba (by simp)
    have hb5z := b5.size
    have h0 : Ne w V E br ba bn (.slice an Y.length cn) Y 0 := by
      rw [hV]
      exact Ne.tick ⟨bR5, bA5, bN5, (OwnS.mono hob hWE).below ((Below.refl _ _).alloc (Nat.le_refl _) _), HI.out.bel.trans (b55.mono HI.out.bel.size)⟩ hC.ne.2.2.1 (by omega) hbaE.2.1 hbaE.1 0
    have bQV : Boxed V bq 23 (.pointer (some ⟨p, 0, none⟩)) := by rw [hV]; exact bQ5.other hC.ne.2.2.2.2.2 _
    have hbaG : ∀ j, Gr F0 E j → j ≠ ba := fun j hj e => by
      subst e
      rcases hj with hj | hj
      · exact hbaE.2.2.1 hj
      · omega
    have hnV : Hn V (Gr F0 E) p v5 Y := by
      rw [hV]
      exact (HN5.out.below b55).keep fun j _ hj => Below.heap_setCell _ _ _ _ fun e => hbaG j hj e
    obtain ⟨a2, cap2, ev5, _, _, _, _, hob2⟩ := hnV.row
    have hne2 : ∀ o, a2 ≠ some ⟨ba, o, none⟩ := fun o e => hbaG ba (hnV.fv ba ((hob2 ba).2 ⟨o, e⟩)) rfl
    subst ev5
    have hKV : V.heap[D]? = some (.deferred (some [])) := by rw [hV]; exact block2 b55 hK rfl _
    have hDV : D < V.heap.size := (Array.getElem?_eq_some_iff.1 hKV).1
    have hwV : w.heap.size ≤ V.heap.size := h0.bel.size
    have hnbr := hC.ne.2.2.1
    have hnbn : bn ≠ ba := by omega
    have hwD : w.heap.size ≤ D := by omega
    have hbrC := (hC.box br (by simp))
    clear hV hbn b55 b5 bA5 bR5 bQ5 bN5 cA5 fA5 hob HI HN5 hK hob2 cA cB cC hb5z hbaG
    generalize hact2 : ({ tmps := _, defers := _ } : Act) = act2
    refine range_tellsA (F := Fence.wide) rfl (by omega) (gf := 17) (lb := #[.pointer (some ⟨bq, 0, none⟩)]) (by rw [← hact2]; rfl) trivial (enters_of Try.func17 (by kernel_rfl) rfl)
      (tellsL _ bq p (Gr F0 E) a2 cap2 Y V bQV hnV (by omega) (by omega)) (Below.refl _ _) kpL_t (fun W l o o' _ h1 h2 => kpL_b W l o o' h1 h2) (fun _ _ _ _ _ _ _ _ _ _ h3 => h3) (fun _ => rfl)
      (fun pre W => Ne w W E br ba bn (.slice an Y.length cn) Y pre.length ∧ W.heap[D]? = some (.deferred (some []))) (fun _ _ _ => False) ?hI2 (fun _ _ _ _ _ h _ _ => h) ⟨h0, hKV⟩
      (fun x => .cells #[.int .i64 x.n, .string x.v, .bool x.d] 32) (fun x b => { tmps := (act2.tmps.setIfInBounds 58 (lkV x)).setIfInBounds 13 (.pointer (some ⟨b, 0, none⟩)), defers := [] }) (fun W o => ⟨by simp, fun r => r.below ((Below.refl _ _).alloc (Nat.le_refl _) _)⟩) (fun _ _ _ _ _ h => h) ?assign2 ?body2 ?done2 ?stop2
    case hI2 => exact OwnFrom.and (Ne.from hwV) (ownFrom_block hDV)
    case assign2 =>
      subst hact2
      intro l x W K hK
      unfold lkV at *
      gi_wp2
      simp only [List.setIfInBounds_toArray, List.set_cons_zero, List.set_cons_succ] at hK
      exact hK
    case body2 =>
      subst hact2
      rintro l b pre x Z W3 hlw hZb hbx ⟨o, hlo, hoc⟩ ⟨hI, hDX⟩ hg hG
      have hIW := hI.grown hg (fun j e => by cases e; exact ⟨by omega, o, hlo, hoc⟩)
      have hDW : W3.heap[D]? = some (.deferred (some [])) := (hg.block D (Array.getElem?_eq_some_iff.1 hDX).1 (by simp; omega)).trans hDX
      obtain ⟨hG1, hG2, hG3⟩ := hG
      have hxl2 : (lk Y.reverse pre.length) = x := hG3.symm
      have hob' : OwnS W3 E 32 3 (.slice an Y.length cn) Y.reverse.length (celL Y.reverse) := by rw [List.length_reverse]; exact hIW.ob
      obtain ⟨ab2, cb2, ev2, hrb, _⟩ := own_row hob'
      rw [List.length_reverse] at ev2
      cases ev2
      obtain ⟨g, f, rfl, lg, d0, d1, d2⟩ := hrb.here (i := pre.length) (by rw [List.length_reverse]; exact hG2)
      rw [hxl2] at d0 d1 d2
      have x0 : W3.cell? ⟨b, 0, none⟩ = some (.int .i64 x.n) := cell_of_row _ _ _ _ _ _ hbx
      have x1 : W3.cell? ⟨b, 1, none⟩ = some (.string x.v) := cell_of_row _ _ _ _ _ _ hbx
      have x2 : W3.cell? ⟨b, 2, none⟩ = some (.bool x.d) := cell_of_row _ _ _ _ _ _ hbx
      have cA := hIW.cA.cell
      have cN := hIW.cN.cell
      have hki : (pre.length : Int) < (Y.length : Int) := by omega
      have hkd : decide (Y.length ≤ pre.length) = false := decide_eq_false (by omega)
      have hki2 : pre.length < Y.length := hG2
      have e1 : (x.n == x.n) = true := by simp
      have e2 : (x.v.toList == x.v.toList) = true := by simp
      have e3 : (x.d == x.d) = true := by simp
      have HI := hide_it hIW
      clear hI hIW hbx hg hlo hG1 hG3 hob' hrb hxl2 h0 hDX hKV
      unfold lkV
      gi_wp2_with fail
      refine inRound.region_quiet (by kernel_rfl) (by kernel_rfl) ?_
      repeat (gi_big_quiet_step (fail))
      refine wpQuietIn_nil ?_
      rintro _ ⟨nq, rfl⟩
      have hbd : Below W3.heap.size W3 (W3.drewN nq) := ((Chg.refl (fun _ => False) W3).drewN nq).below (fun _ e => e.elim) (Nat.le_refl _)
      have HD := hide_it (HI.out.grown (grown_none hbd) (fun j e => by cases e))
      generalize W3.drewN nq = WD at hbd HD ⊢
      have cA := HD.out.cA.cell
      have fA := HD.out.cA.frozen
      clear cN x0 x1 x2 d0 d1 d2
      gi_wp2_with fail
      have ht := HD.out.tick hnbr hnbn hbaE.2.1 hbaE.1 (pre.length + 1)
      have e5 : (pre ++ [x]).length = pre.length + 1 := by simp
      refine ⟨from2 hbd _, kept2 hbd hne2 _, ?_, block2 hbd hDW rfl _⟩
      show Ne w _ E br ba bn _ Y (pre ++ [x]).length
      rw [e5]
      exact ht
    case done2 =>
      subst hact2
      rintro D2 zs W3 hD2 hS2 ⟨hI, hDX⟩ hK2
      have hlen : zs.length = Y.length := by rw [hS2]; simp
      replace hI : Ne w W3 E br ba bn (.slice an Y.length cn) Y zs.length := hI
      rw [hlen] at hI
      clear hlen hS2
      have cA := hI.cA.cell
      have cN := hI.cN.cell
      have haw := awake_any W3
      gi_wp2_with fail
      refine ⟨trivial, (callsIn_wide.2 haw).mono ?_⟩
      rintro e w9 ⟨rfl, b9⟩
      have bR9 : Boxed w9 br 4 (.bool false) := hI.cR.kept (grown_none b9) (by simp)
      have fR9 := bR9.frozen
      have cR9 := bR9.cell
      have hD9 : w9.heap[D]? = some (.deferred (some [])) := (b9.block D (Array.getElem?_eq_some_iff.1 hDX).1).trans hDX
      have hD29 : w9.heap[D2]? = some (.deferred (some [])) := (b9.block D2 (Array.getElem?_eq_some_iff.1 hK2).1).trans hK2
      have hne : D ≠ D2 := by omega
      have hwb := hI.bel.trans (b9.mono hI.bel.size)
      have HR9 := hide_it bR9
      clear hI haw hDX hK2 bR9 b9 cA cN
      gi_wp2
      have hka := (KeepsOthers.setCell w9 ⟨br, 0, none⟩ (.bool true)).same D2 _ hD29 rfl
      have hkb0 := (KeepsOthers.setCell w9 ⟨br, 0, none⟩ (.bool true)).same D _ hD9 rfl
      have hkb : ((w9.setCell ⟨br, 0, none⟩ (.bool true)).putObj D2 (.deferred none)).heap[D]? = some (.deferred (some [])) := by
        rw [World.putObj_heap_other hne]; exact hkb0
      refine ⟨by simp, .inl ⟨_, _, rfl, run_takeDeferred hka, ?_⟩⟩
      refine ⟨by simp, .inl ⟨_, _, rfl, run_takeDeferred hkb, ?_⟩⟩
      have x0 : Boxed (((w9.setCell ⟨br, 0, none⟩ (.bool true)).putObj D2 (.deferred none)).putObj D (.deferred none)) br 4 (.bool true) :=
        ((HR9.out.set _).kept (grownBy_putObj' _ D2 _) (by simp; omega)).kept (grownBy_putObj' _ D _) (by simp; omega)
      have y0 := x0.cell
      refine ⟨.bool true, by simp [results, Try.results3, go_sem, y0], rfl, ?_⟩
      exact ((hwb.setCell (p := ⟨br, 0, none⟩) hbrC.1 _).trans (belowK_b (w := w) (Nat.le_refl _) _ D2 _ _ (by omega) hka rfl rfl)).trans (belowK_b (w := w) (Nat.le_refl _) _ D _ _ hwD hkb rfl rfl)
    case stop2 =>
      rintro D c pre W _ _ h _
      exact h.elim
  case stop =>
    rintro D c pre W _ _ h _
    exact h.elim

end Go.Proofs.Ytncmnhomloanaab.chainOld
