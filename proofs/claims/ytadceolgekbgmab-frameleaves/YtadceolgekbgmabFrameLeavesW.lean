/- The law on the frames' memory, walked. -/
import Derived.Test.YtadceolgekbgmabFl2
import Derived.Maps.OwnIn
namespace Go.Proofs.Ytadceolgekbgmab.frameLeaves
open Go.RowKit Go.Shelf

attribute [local go_sem] Oper.semAt_some

theorem infoP : (Try.prog.info? 22).map (fun i => (i.zero, i.size, i.bytes)) = some (some (.slice none 0 0), 1, 24) := by kernel_rfl

theorem two_of {α : Type} : ∀ (l : List α), l.length = 2 → ∃ x y, l = [x, y]
  | [x, y], _ => ⟨x, y, rfl⟩
theorem same_eq (a b : Option Addr) (ca cb : Nat) (xs : List Nat) (w : World) (ha : RowB w a xs) (hb : RowB w b xs) (hx : All8 xs) (hna : a = none → xs.length = 0 ∧ ca = 0) (hnb : b = none → xs.length = 0 ∧ cb = 0) :
    Calls Try.prog 13 #[.slice a xs.length ca, .slice b xs.length cb] w fun e w' => e = .returned (.bool true) ∧ w' = w :=
  (same_any a b ca cb xs xs w ha hb hx hx hna hnb).mono fun e w' ⟨h1, h2⟩ => ⟨by rw [h1]; simp, h2⟩
/-- The row of a slice of one's own. -/
theorem OwnB.is {w : World} {base : Nat} {p : Option Addr} {n q : Nat} {zs : List Nat} (h : OwnB w base (.slice p n q) zs) : RowB w p zs ∧ (p = none → zs.length = 0 ∧ q = 0) := by
  obtain ⟨a, c, e, hr, _, _, hn⟩ := h.row
  cases e
  exact ⟨hr, hn⟩

theorem two_frs {za zb : List Nat} (ha : All8 za ∧ za.length ≤ 65536) (hb : All8 zb ∧ zb.length ≤ 65536) : frs (frm za ++ frm zb) = [(za.length + 9, za), (za.length + 9 + (zb.length + 9), zb)] := by
  have hp : ∀ p ∈ [za, zb], All8 p ∧ p.length ≤ 65536 := fun p hp => by
    simp at hp
    rcases hp with rfl | rfl
    · exact ha
    · exact hb
  have e : rowOf [za, zb] = frm za ++ frm zb := by simp [rowOf]
  have h := frs_begin hp (k := (rowOf [za, zb]).length) (Nat.le_refl _)
  rw [List.take_length, e] at h
  rw [h]
  have hc : cntR (frm za ++ frm zb).length [za, zb] = 2 := by
    rw [List.length_append, frm_len, frm_len]
    simp [cntR]
  rw [hc]
  simp [stepsOf]

set_option maxRecDepth 100000 in
set_option maxHeartbeats 16000000 in
theorem walk (a : Option Addr) (ca : Nat) (za : List Nat) (b : Option Addr) (cb : Nat) (zb : List Nat) (w : World) (hca : Came8 w a ca za) (hcb : Came8 w b cb zb) :
    Calls Try.prog 8 #[.slice a za.length ca, .slice b zb.length cb] w fun e w' => e = .returned (.bool true) ∧ Below w.heap.size w w' := by
  have hfn : ∀ (fn : Fn) (a b : Array Value) (w : World), (binOp .eql 40 (.func fn a b) .nilFunc).run Try.prog w = .ok (.bool false) w := fun _ _ _ _ => rfl
  have hla := hca.size
  have hlb := hcb.size
  have hra := hca.row
  have hrb := hcb.row
  have h8a := hca.all
  have h8b := hcb.all
  have hna := hca.none
  have hnb := hcb.none
  have hh := head_any w
  clear hca hcb
  refine (callsIn_wide (n := 3)).1 ?_
  refine callsIn_of_wp_marks Try.func8 rfl trivial ?_ rfl
  simp only [Try.ntmps8, List.size_toArray, List.length_cons, List.length_nil, Nat.reduceAdd, Nat.reduceSub, Array.replicate_succ, Array.replicate_zero, List.push_toArray, List.append_toArray, List.nil_append, List.cons_append]
  gi_wp2_with fail
  refine ⟨trivial, (callsIn_wide.2 hh).mono ?_⟩
  rintro e w1 ⟨rfl, hb1⟩
  clear hh
  by_cases hba : 65536 < za.length
  · have hbi : (65536 : Int) < (za.length : Int) := by omega
    gi_wp2_with fail
    exact ⟨.bool true, by simp [results, Try.results8, go_sem], rfl, hb1⟩
  have hbi : ¬ (65536 : Int) < (za.length : Int) := by omega
  by_cases hbb : 65536 < zb.length
  · have hbj : (65536 : Int) < (zb.length : Int) := by omega
    gi_wp2_with fail
    exact ⟨.bool true, by simp [results, Try.results8, go_sem], rfl, hb1⟩
  have hbj : ¬ (65536 : Int) < (zb.length : Int) := by omega
  have hsa : za.length ≤ 65536 := by omega
  have hsb : zb.length ≤ 65536 := by omega
  clear hba hbb hla hlb
  -- l, and what it was
  have hA1 : Apt w1 w.heap.size [] := Apt.nil _ _
  have hz1 := hb1.size
  have hle := lent_any a ca za w1 (hra.below hb1) (by omega) hna
  gi_wp2_with fail
  refine ⟨trivial, (callsIn_wide.2 hle).mono ?_⟩
  rintro e w2 ⟨⟨vl, rfl, hol⟩, hb2⟩
  have hLl : (za ++ marks 70).length ≤ 65606 := by simp [marks_len]; omega
  have hLg := hide_it (show za.length ≤ (za ++ marks 70).length by simp)
  have hL8 : All8 (za ++ marks 70) := h8a.append (marks_8 (by omega))
  have HLt := hide_it (show (za ++ marks 70).take za.length = za by simp)
  generalize za ++ marks 70 = Ls at *
  have hA2 := hA1.push hb2 hz1 hol
  obtain ⟨pl, ql, hvl, hpl, hllq, hlm, hln⟩ := hol.row
  subst hvl
  have hbw2 := hb1.trans (hb2.mono hz1)
  have hz2 := hbw2.size
  have hcp := copied_any pl ql Ls w2 hpl (by omega) hln
  clear hle hol hA1 hb1 hpl
  gi_wp2_with fail
  refine ⟨trivial, (callsIn_wide.2 hcp).mono ?_⟩
  rintro e w3 ⟨⟨vk, rfl, hok⟩, hb3⟩
  have hA3 := hA2.push hb3 hz2 hok
  obtain ⟨pk, qk, hvk, _, _, _, hkn⟩ := hok.row
  subst hvk
  have hbw3 := hbw2.trans (hb3.mono hz2)
  have hz3 := hbw3.size
  have hql : za.length ≤ ql := by have := hLg.out; omega
  have rowL : ∀ W', OwnB W' w.heap.size (.slice pl Ls.length ql) Ls → RowB W' pl za := fun W' h => by
    obtain ⟨p', q', e', hp', _⟩ := h.row
    cases e'
    have := ((RowLt.of_row hp').take za.length).row
    rwa [HLt.out] at this
  have hlnil : pl = none → za.length = 0 ∧ ql = 0 := fun e => by have := hln e; have := hLg.out; omega
  unfold maxLen at hlm
  -- one and two
  have hmk := make_ok pl ql za w3 (rowL w3 (hA3.own 0 _ rfl)) h8a hsa hlnil
  clear hcp hok hA2 hbw2
  gi_wp2_with fail
  refine ⟨trivial, (callsIn_wide.2 hmk).mono ?_⟩
  rintro e w4 ⟨⟨v1, rfl, ho1⟩, hb4⟩
  have hFal : (frm za).length ≤ 65545 := by rw [frm_len]; omega
  have hFa8 := frm_all h8a
  have hFa9 := hide_it (frm_len za)
  obtain ⟨Fa, hFa⟩ : ∃ Fa, Fa = frm za := ⟨_, rfl⟩
  rw [← hFa] at ho1 hFal hFa8 hFa9
  replace hFa := hide_it hFa
  have hA4 := hA3.push hb4 hz3 ho1
  obtain ⟨p1, q1, hv1, _⟩ := ho1.row
  subst hv1
  have hbw4 := hbw3.trans (hb4.mono hz3)
  have hz4 := hbw4.size
  have hmk2 := make_ok pl ql za w4 (rowL w4 (hA4.own 0 _ rfl)) h8a hsa hlnil
  rw [← hFa.out] at hmk2
  clear hmk ho1 hA3 hbw3
  gi_wp2_with fail
  refine ⟨trivial, (callsIn_wide.2 hmk2).mono ?_⟩
  rintro e w5 ⟨⟨v2, rfl, ho2⟩, hb5⟩
  have hA5 := hA4.push hb5 hz4 ho2
  obtain ⟨p2, q2, hv2, _⟩ := ho2.row
  subst hv2
  have hbw5 := hbw4.trans (hb5.mono hz4)
  have hz5 := hbw5.size
  clear hmk2 ho2 hA4 hbw4
  -- the row
  obtain ⟨w5', hw5'⟩ : ∃ w5', w5' = w5.alloc (.cells #[.slice a za.length ca, .slice b zb.length cb] 22) := ⟨_, rfl⟩
  have hb5' : Below w5.heap.size w5 w5' := by rw [hw5']; exact (Below.refl _ _).alloc (Nat.le_refl _) _
  have hbw5' := hbw5.trans (hb5'.mono hz5)
  have hz5' := hbw5'.size
  have hA5' := hA5.below hb5'
  have hrow : Calls Try.prog 19 #[.slice (some ⟨w5.heap.size, 0, none⟩) 2 2] w5' fun e w' => (∃ r, e = .returned r ∧ OwnB w' w5'.heap.size r (frm za ++ frm zb)) ∧ Below w5'.heap.size w5' w' := by
    have h := rrow_any (some ⟨w5.heap.size, 0, none⟩) 2 2 (fun i => if i = 0 then ⟨a, ca, za⟩ else ⟨b, cb, zb⟩) w5' (.inr ⟨w5.heap.size, 0, rfl, by rw [hw5']; simp, fun i hi => by
        rw [hw5', cell_of_row _ _ _ _ _ _ (heap_alloc_new w5 _)]
        match i, hi with
        | 0, _ => rfl
        | 1, _ => rfl⟩) (fun i hi => by
        match i, hi with
        | 0, _ => exact ⟨hra.below hbw5', h8a, by show za.length ≤ _; omega, hna⟩
        | 1, _ => exact ⟨hrb.below hbw5', h8b, by show zb.length ≤ _; omega, hnb⟩) (fun i hi => by
        match i, hi with
        | 0, _ => exact hsa
        | 1, _ => exact hsb) (by omega)
    have e : rowOf (payP 2 (fun i => if i = 0 then (⟨a, ca, za⟩ : Pc) else ⟨b, cb, zb⟩)) = frm za ++ frm zb := by simp [rowOf, payP, List.range_succ]
    rwa [e] at h
  have hRl : (frm za ++ frm zb).length ≤ 131090 := by rw [List.length_append, frm_len, frm_len]; omega
  have HRl := hide_it (show (frm za ++ frm zb).length = za.length + 9 + (zb.length + 9) by rw [List.length_append, frm_len, frm_len])
  have HRr := hide_it (rdF_back h8a hsa (frm zb))
  have HRp := hide_it (pay_back za (frm zb))
  have HRf := hide_it (two_frs ⟨h8a, hsa⟩ ⟨h8b, hsb⟩)
  have hR8 : All8 (frm za ++ frm zb) := (frm_all h8a).append (frm_all h8b)
  have HRd : Hid ((frm za ++ frm zb).drop (za.length + 9) = frm zb) := by
    show _ = _
    rw [List.drop_append_of_le_length (by rw [frm_len]; omega), List.drop_eq_nil_of_le (by rw [frm_len]; omega), List.nil_append]
  generalize frm za ++ frm zb = R at *
  gi_wp2_with fail
  rw [← hw5']
  clear hw5'
  refine ⟨trivial, (callsIn_wide.2 hrow).mono ?_⟩
  rintro e w6 ⟨⟨vr, rfl, hor⟩, hb6⟩
  have hA6 := hA5'.push hb6 hz5' hor
  obtain ⟨pr, qr, hvr, hpr, _, _, hrn⟩ := hor.row
  subst hvr
  have hbw6 := hbw5'.trans (hb6.mono hz5')
  have hz6 := hbw6.size
  have hle := lent_any pr qr R w6 hpr (by omega) hrn
  clear hrow hor hA5 hA5' hbw5 hb5' hpr
  -- m, and what it was
  gi_wp2_with fail
  refine ⟨trivial, (callsIn_wide.2 hle).mono ?_⟩
  rintro e w7 ⟨⟨vm, rfl, hom⟩, hb7⟩
  have hMl : (R ++ marks 70).length ≤ 131160 := by simp [marks_len]; omega
  have hMg := hide_it (show R.length + 70 = (R ++ marks 70).length by simp [marks_len])
  have hM8 : All8 (R ++ marks 70) := hR8.append (marks_8 (by omega))
  have HMt := hide_it (show (R ++ marks 70).take R.length = R by simp)
  generalize R ++ marks 70 = Ms at *
  have hA7 := hA6.push hb7 hz6 hom
  obtain ⟨pm, qm, hvm, hpm, hmlq, hmm, hmn⟩ := hom.row
  subst hvm
  have hbw7 := hbw6.trans (hb7.mono hz6)
  have hz7 := hbw7.size
  have hcp := copied_any pm qm Ms w7 hpm (by omega) hmn
  clear hle hA6 hbw6
  gi_wp2_with fail
  refine ⟨trivial, (callsIn_wide.2 hcp).mono ?_⟩
  rintro e w8 ⟨⟨vn, rfl, hon⟩, hb8⟩
  have hA8 := hA7.push hb8 hz7 hon
  obtain ⟨pn, qn, hvn, _, _, _, hnn⟩ := hon.row
  subst hvn
  have hbw8 := hbw7.trans (hb8.mono hz7)
  have hz8 := hbw8.size
  unfold maxLen at hmm
  have hmR : R.length ≤ qm := by have := hMg.out; omega
  obtain ⟨gm, om, hpme, _, _⟩ := hpm.here (i := 0) (by have := hMg.out; omega)
  subst hpme
  have rowM : ∀ W', OwnB W' w.heap.size (.slice (some ⟨gm, om, none⟩) Ms.length qm) Ms → RowB W' (some ⟨gm, om, none⟩) Ms := fun W' h => by
    obtain ⟨p', q', e', hp', _⟩ := h.row
    cases e'
    exact hp'
  have rowM1 : ∀ W', OwnB W' w.heap.size (.slice (some ⟨gm, om, none⟩) Ms.length qm) Ms → RowB W' (some ⟨gm, om, none⟩) R := fun W' h => by
    have := ((RowLt.of_row (rowM W' h)).take R.length).row
    rwa [HMt.out] at this
  clear hcp hon hom hA7 hbw7 hpm
  -- what is read
  have hrd := read_any (some ⟨gm, om, none⟩) qm R w8 (rowM1 w8 (hA8.own 5 _ rfl)) hR8 hmR (by unfold maxLen; omega) (by simp)
  rw [HRr.out] at hrd
  gi_wp2_with fail
  refine ⟨trivial, (callsIn_wide.2 hrd).mono ?_⟩
  rintro e w9 ⟨⟨v7, he7, ho7⟩, hb9⟩
  rw [HRp.out] at ho7
  subst he7
  have hA9 := hA8.push hb9 hz8 ho7
  obtain ⟨p7, q7, hv7, _⟩ := ho7.row
  subst hv7
  have hbw9 := hbw8.trans (hb9.mono hz8)
  have hz9 := hbw9.size
  obtain ⟨N9, hN9⟩ : ∃ N9, N9 = za.length + 9 := ⟨_, rfl⟩
  have hrd2 := read_any (some ⟨gm, om + N9, none⟩) (qm - N9) (frm zb) w9 (by
      have h := (rowM w9 (hA9.own 5 _ rfl)).cut N9 (R.length - N9)
      have e : (Ms.drop N9).take (R.length - N9) = frm zb := by
        rw [← List.drop_take, HMt.out, hN9, HRd.out]
      rwa [e] at h) (frm_all h8b) (by have h1 := HRl.out; rw [frm_len]; omega) (by unfold maxLen; omega) (by simp)
  have hrdb := rdF_back h8b hsb []
  rw [List.append_nil] at hrdb
  have hpyb := pay_back zb []
  rw [List.append_nil] at hpyb
  rw [hrdb, show (frm zb).length = R.length - N9 by rw [frm_len]; have := HRl.out; omega] at hrd2
  have hNR : N9 ≤ R.length := by have := HRl.out; omega
  have hNi : IntKind.i64.wrap ((za.length : Int) + 9) = (N9 : Int) := by rw [i64_in (by omega) (by omega)]; omega
  have hNi2 : (za.length : Int) + 9 = (N9 : Int) := by omega
  have hqN : ¬ qm = N9 := by have := hMg.out; omega
  replace hN9 := hide_it hN9
  clear hrd ho7 hA8 hbw8 hrdb
  gi_wp2_with fail
  refine ⟨trivial, (callsIn_wide.2 hrd2).mono ?_⟩
  rintro e w10 ⟨⟨v8, he8, ho8⟩, hb10⟩
  rw [hpyb] at ho8
  subst he8
  have hA10 := hA9.push hb10 hz9 ho8
  obtain ⟨p8, q8, hv8, _⟩ := ho8.row
  subst hv8
  have hbw10 := hbw9.trans (hb10.mono hz9)
  have hz10 := hbw10.size
  clear hrd2 ho8 hA9 hbw9 hpyb
  -- the list
  obtain ⟨w11, hw11⟩ : ∃ w11, w11 = (w10.alloc (.cells #[] 22)).alloc (.cells #[.slice (some ⟨w10.heap.size, 0, none⟩) 0 0] 36) := ⟨_, rfl⟩
  have hb11 : Below w10.heap.size w10 w11 := by rw [hw11]; exact ((Below.refl _ w10).alloc (Nat.le_refl _) _).alloc (by simp) _
  have hz11 : w11.heap.size = w10.heap.size + 1 + 1 := by rw [hw11]; simp
  have bL11 : Boxed w11 (w10.heap.size + 1) 36 (.slice (some ⟨w10.heap.size, 0, none⟩) 0 0) := by
    have := Boxed.new (w10.alloc (.cells #[] 22)) 36 (.slice (some ⟨w10.heap.size, 0, none⟩) 0 0)
    rw [hw11]; simpa using this
  have oL11 : w11.ownsRow w10.heap.size 22 1 (.slice (some ⟨w10.heap.size, 0, none⟩) 0 0) 0 [] := by
    refine ⟨rfl, .inr ⟨w10.heap.size, 0, #[], rfl, by omega, ?_, Nat.le_refl _, by simp [maxLen], rfl, rfl⟩⟩
    rw [hw11, Below.heap_alloc _ _ _ (by simp)]
    exact heap_alloc_new w10 _
  have hS11 : StL w (w10.heap.size + 1) w10.heap.size (.slice (some ⟨w10.heap.size, 0, none⟩) 0 0) [] _ w11 := ⟨hA10.below hb11, bL11, oL11, hbw10.trans (hb11.mono hz10)⟩
  have hall := all_any (some ⟨gm, om, none⟩) qm R w11 (rowM1 w11 (hS11.apt.own 5 _ rfl)) (by omega) (by simp)
  obtain ⟨LB, hLB⟩ : ∃ LB, LB = w10.heap.size + 1 := ⟨_, rfl⟩
  clear bL11 oL11 hA10 hbw10 hb11
  gi_wp2_with fail
  rw [← hw11]
  clear hw11
  refine ⟨trivial, (callsIn_wide.2 hall).mono ?_⟩
  rintro e w12 ⟨v12, Bq, rfl, hbx, hown, hBq, hb12⟩
  have hS12 := hS11.below hb12
  have hz12 := hb12.size
  rw [← hLB] at hS12
  obtain ⟨SS, hSS⟩ : ∃ SS : List (Value × List Nat), SS = [] ++ [(Value.slice pl Ls.length ql, Ls)] ++ [(Value.slice pk Ls.length qk, Ls)] ++ [(Value.slice p1 Fa.length q1, Fa)] ++ [(Value.slice p2 Fa.length q2, Fa)] ++ [(Value.slice pr R.length qr, R)] ++ [(Value.slice (some ⟨gm, om, none⟩) Ms.length qm, Ms)] ++ [(Value.slice pn Ms.length qn, Ms)] ++ [(Value.slice p7 za.length q7, za)] ++ [(Value.slice p8 zb.length q8, zb)] := ⟨_, rfl⟩
  rw [← hSS] at hS12
  have hBl := hbx.lt
  have hvl := hown.inside
  have hLB12 : LB < w12.heap.size := hS12.box.lt
  have hLBq : LB ≠ Bq := by omega
  replace hSS := hide_it hSS
  clear hall hS11
  have hLBe := hide_it hLB
  have hBqw : w10.heap.size ≠ Bq := by omega
  have hLw : w10.heap.size ≤ LB := by omega
  have hz1011 : w10.heap.size < w11.heap.size := by omega
  clear hz11
  gi_wp2_with fail
  rw [← hLB]
  clear hLB
  generalize hact : ({ tmps := _, defers := [] } : Act) = act0
  refine range_tells (F := Fence.wide) rfl (by omega) (gf := 30) (lb := #[.pointer (some ⟨Bq, 0, none⟩)]) (by rw [← hact]; rfl) trivial (enters_of Try.func30 (by kernel_rfl) rfl)
    (tellsF _ Bq w11.heap.size v12 R w12 hbx hown hR8 (by omega) (by omega)) (Below.refl _ _) kpF_t (kpF_b hBl hvl) (fun _ _ _ _ _ _ _ _ h1 h2 h3 => h3.put h1 h2) (fun _ => rfl)
    (fun pre W => ∃ ve, StL w LB w10.heap.size ve (pre.map (fun x => x.2.1)) (SS ++ pre.map (fun x => x.2)) W ∧ ∀ j, ve.ownBlock = some j → j = w10.heap.size ∨ w12.heap.size ≤ j)
    (fun _ _ _ => False) ?hI (fun _ _ _ _ _ hs _ _ => hs) ⟨.slice (some ⟨w10.heap.size, 0, none⟩) 0 0, by simpa using hS12, fun j e => by simp [Value.ownBlock] at e; exact .inl e.symm⟩
    (fun x => { tmps := ((act0.tmps.setIfInBounds 100 (.int .i64 (x.1 : Int))).setIfInBounds 101 x.2.1).setIfInBounds 23 x.2.1, defers := [] }) ?assign ?body ?done ?stop
  case hI =>
    rintro s X Y row ⟨ve, hS, hj⟩ hg hr
    exact ⟨ve, hS.grown hg (fun j e => ⟨by have := (hr j e).1; have := hS12.bel.size; omega, (hr j e).2⟩), hj⟩
  case assign =>
    subst hact
    intro l x W K hK
    gi_wp2
    simp only [List.setIfInBounds_toArray, List.set_cons_zero, List.set_cons_succ] at hK
    exact hK
  case body =>
    subst hact
    rintro l pre x X W hlw ⟨o, hlo, hoc⟩ ⟨ve, hS, hvB⟩ hg hG
    have hpl : pre.length < 2 := by
      have := (List.getElem?_eq_some_iff.1 hG.1).1
      rw [HRf.out] at this
      simpa using this
    have hnc : ∀ r, some l = some r → ∃ o : Obj, X.heap[r]? = some o ∧ o.isCells = false := fun r e => by cases e; exact ⟨o, hlo, hoc⟩
    have hSW := hS.grown hg (fun j e => by cases e; exact ⟨by have := hS12.bel.size; omega, o, hlo, hoc⟩)
    have hAW := hS.apt.push' (fun j cur hc => grownBy_keeps_cells hg hnc hc rfl) hS.bel.size hG.2
    obtain ⟨px, cx, hvx, _⟩ := hG.2.row
    obtain ⟨i0, hi, hz0', hz1', hz2'⟩ := info_parts infoP
    have q0 := hSW.box.cell
    have hzW := hSW.bel.size
    have hzW2 : w12.heap.size ≤ W.heap.size := by
      have h1 := (Array.getElem?_eq_some_iff.1 hlo).1
      have h2 := hg.size
      omega
    have hrow : W.ownsRow w10.heap.size 22 1 ve pre.length (pre.map (fun x => x.2.1)) := by
      have := hSW.row
      rwa [List.length_map] at this
    obtain ⟨E, u, zs⟩ := x
    dsimp only at hvx hAW
    subst hvx
    have HG := hide_it hG
    have HSW := hide_it hSW
    have HAW := hide_it hAW
    clear hG hS hg hlo hSW hAW hnc
    gi_wp2_with (gi_at_builtin; refine wpListIn_append_own_at _ rfl _ _ 36 rfl w10.heap.size 22 i0 (.slice none 0 0) 1 24 Try.underlying36 hi hz0' hz1' hz2' rfl (by decide) _ _ _ rfl (hrow.alloc _) ⟨W.heap.size, 0, none⟩ 1 1 [.slice px zs.length cx] rfl rfl (cell_one_new _ _ _) (by simp [Value.oneCell']) (by unfold maxLen; omega) (by omega) (by simp; omega) ?_; intro v' w13 hown' hgrow _ hat; obtain ⟨g', cap', rfl⟩ := ownsRow_succ hown'; obtain ⟨hv1, hv2, hr3, hk2, hb2⟩ := HSW.out.box.appended (by decide) hrow (by omega) (by omega) hown' hgrow; have hc1 := hv1.cell; have hf1 := hv1.frozen)
    have hnB : ∀ j, ve.ownBlock = some j → j ≠ Bq := fun j hj => by rcases hvB j hj with h | h <;> omega
    refine ⟨hk2.from _, ⟨hk2.size, app_keep hgrow (by omega) hLBq.symm (fun e => hnB Bq e rfl), fun j hj => app_keep hgrow (by have := hvl j hj; omega) (fun e => by
        have h := hS12.box.not_row (by decide) hown
        rw [hj, e] at h
        exact h rfl) (fun e => by
        have h1 := hvl j hj
        have h2 := hown.ge hj
        rcases hvB j e with h | h <;> omega)⟩, .slice (some ⟨g', 0, none⟩) (pre.length + 1) cap', ⟨?_, hv2, ?_, HSW.out.bel.trans (hb2.mono (by omega))⟩, ?_⟩
    · have h := HAW.out.keep (w' := w13.setCell ⟨LB, 0, none⟩ (.slice (some ⟨g', 0, none⟩) (pre.length + 1) cap')) (fun j cur hc => app_keep hgrow (Array.getElem?_eq_some_iff.1 hc).1 (fun e => by
          subst e
          rw [show W.heap[j]? = _ from HSW.out.box] at hc
          cases hc) (fun e => by
          obtain ⟨_, _, cur', hc'⟩ := ownsRow_blk hrow e
          rw [hc] at hc'
          cases hc'))
      rw [List.map_append, ← List.append_assoc]
      exact h
    · rw [List.map_append, List.length_append, List.length_map]
      exact hr3
    · intro j hj
      rcases hat with h | h
      · exact hvB j (h.symm.trans hj)
      · rw [hj] at h
        have := Option.some.inj h
        rw [World.size_alloc] at this
        exact .inr (by omega)
  case done =>
    subst hact
    rintro D ys W hD hS ⟨ve, hSt, _⟩ hK
    rw [HRf.out] at hS
    obtain ⟨x0, x1, rfl, hx0, hx1⟩ : ∃ x0 x1, ys = [x0, x1] ∧ x0.2.2 = za ∧ x1.2.2 = zb := by
      have hlen : ys.length = 2 := by simpa using congrArg List.length hS
      obtain ⟨x0, x1, rfl⟩ := two_of ys hlen
      simp [tl] at hS
      exact ⟨x0, x1, rfl, hS.1.2, hS.2.2⟩
    obtain ⟨E0, u0, y0⟩ := x0
    obtain ⟨E1, u1, y1⟩ := x1
    dsimp only at hx0 hx1
    subst hx0 hx1
    rw [hSS.out] at hSt
    simp only [List.map_cons, List.map_nil, List.nil_append, List.cons_append] at hSt
    obtain ⟨pu, qu, hvu, _⟩ := (hSt.apt.own 9 _ rfl).row
    obtain ⟨pv, qv, hvv, _⟩ := (hSt.apt.own 10 _ rfl).row
    dsimp only at hvu hvv
    subst hvu hvv
    obtain ⟨gv, cv, hve⟩ := ownsRow_succ hSt.row
    subst hve
    have cells : ∀ W ss, StL w LB w10.heap.size (.slice (some ⟨gv, 0, none⟩) 2 cv) [.slice pu y0.length qu, .slice pv y1.length qv] ss W → W.cell? ⟨LB, 0, none⟩ = some (.slice (some ⟨gv, 0, none⟩) 2 cv) ∧ W.cell? ⟨gv, 0, none⟩ = some (.slice pu y0.length qu) ∧ W.cell? ⟨gv, 1, none⟩ = some (.slice pv y1.length qv) := fun W ss h => by
      rcases h.row.2 with ⟨e, _⟩ | ⟨g, c, cur, e, _, hh, _, _, _, ht⟩
      · cases e
      · cases e
        have ht' : cur.toList.take (2 * 1) = [Value.slice pu y0.length qu, Value.slice pv y1.length qv] := ht
        have h0 : (cur.toList.take (2 * 1))[0]? = some (Value.slice pu y0.length qu) := by rw [ht']; rfl
        have h1 : (cur.toList.take (2 * 1))[1]? = some (Value.slice pv y1.length qv) := by rw [ht']; rfl
        rw [List.getElem?_take_of_lt (by omega), Array.getElem?_toList] at h0 h1
        exact ⟨h.box.cell, by rw [cell_of_row _ _ _ _ _ _ hh]; exact h0, by rw [cell_of_row _ _ _ _ _ _ hh]; exact h1⟩
    replace hK := hide_it hK
    have hDl : D < W.heap.size := (Array.getElem?_eq_some_iff.1 hK.out).1
    clear hbx hown hS12 hBl hvl hLB12 HRf hSS hS
    have hct := count_any (some ⟨gm, om, none⟩) qm R W (rowM1 W (hSt.apt.own 5 _ rfl)) hR8 (by omega) (by simp)
    gi_wp2_with fail
    refine ⟨trivial, (callsIn_wide.2 hct).mono ?_⟩
    rintro e x1 ⟨rfl, hbx1⟩
    have S1 := hSt.below hbx1
    have K1 := hide_it ((hbx1.block D hDl).trans hK.out)
    have hDx1 : D < x1.heap.size := by have := hbx1.size; omega
    clear hct hSt hbx1 hDl hK
    have hsm1 := same_eq pl pk ql qk Ls x1 (OwnB.is (S1.apt.own 0 _ rfl)).1 (OwnB.is (S1.apt.own 1 _ rfl)).1 hL8 (OwnB.is (S1.apt.own 0 _ rfl)).2 (OwnB.is (S1.apt.own 1 _ rfl)).2
    gi_wp2_with fail
    refine ⟨trivial, (callsIn_wide.2 hsm1).mono ?_⟩
    rintro e xq ⟨rfl, hq⟩
    have hq2 := hq.symm
    subst hq2
    clear hq hsm1
    have cl1 := (cells x1 _ S1).1
    have hsm2 := same_eq (some ⟨gm, om, none⟩) pn qm qn Ms x1 (OwnB.is (S1.apt.own 5 _ rfl)).1 (OwnB.is (S1.apt.own 6 _ rfl)).1 hM8 (OwnB.is (S1.apt.own 5 _ rfl)).2 (OwnB.is (S1.apt.own 6 _ rfl)).2
    gi_wp2_with fail
    refine ⟨trivial, (callsIn_wide.2 hsm2).mono ?_⟩
    rintro e xq ⟨rfl, hq⟩
    have hq2 := hq.symm
    subst hq2
    clear hq hsm2
    have hwt := rframe_any a ca y0 x1 (hra.below S1.bel) h8a hsa hna
    rw [← hFa.out] at hwt
    gi_wp2_with fail
    refine ⟨trivial, (callsIn_wide.2 hwt).mono ?_⟩
    rintro e x2 ⟨⟨vw, rfl, how⟩, hbx2⟩
    obtain ⟨pw, qw, hvw, hpw, _, _, hwn⟩ := how.row
    subst hvw
    have S2 := S1.below hbx2
    have K2 := hide_it ((hbx2.block D hDx1).trans K1.out)
    have hDx2 : D < x2.heap.size := by have := hbx2.size; omega
    obtain ⟨cl2, cu2, cv2⟩ := cells x2 _ S2
    clear hwt how S1 K1 hDx1 hbx2 cl1
    have hsm3 := same_eq p1 pw q1 qw Fa x2 (OwnB.is (S2.apt.own 2 _ rfl)).1 hpw hFa8 (OwnB.is (S2.apt.own 2 _ rfl)).2 hwn
    gi_wp2_with fail
    refine ⟨trivial, (callsIn_wide.2 hsm3).mono ?_⟩
    rintro e xq ⟨rfl, hq⟩
    have hq2 := hq.symm
    subst hq2
    clear hq hsm3
    have hsm4 := same_eq p2 pw q2 qw Fa x2 (OwnB.is (S2.apt.own 3 _ rfl)).1 hpw hFa8 (OwnB.is (S2.apt.own 3 _ rfl)).2 hwn
    gi_wp2_with fail
    refine ⟨trivial, (callsIn_wide.2 hsm4).mono ?_⟩
    rintro e xq ⟨rfl, hq⟩
    have hq2 := hq.symm
    subst hq2
    clear hq hsm4
    have hsm5 := same_eq p7 a q7 ca y0 x2 (OwnB.is (S2.apt.own 7 _ rfl)).1 (hra.below S2.bel) h8a (OwnB.is (S2.apt.own 7 _ rfl)).2 hna
    gi_wp2_with fail
    refine ⟨trivial, (callsIn_wide.2 hsm5).mono ?_⟩
    rintro e xq ⟨rfl, hq⟩
    have hq2 := hq.symm
    subst hq2
    clear hq hsm5
    have hsm6 := same_eq p8 b q8 cb y1 x2 (OwnB.is (S2.apt.own 8 _ rfl)).1 (hrb.below S2.bel) h8b (OwnB.is (S2.apt.own 8 _ rfl)).2 hnb
    gi_wp2_with fail
    refine ⟨trivial, (callsIn_wide.2 hsm6).mono ?_⟩
    rintro e xq ⟨rfl, hq⟩
    have hq2 := hq.symm
    subst hq2
    clear hq hsm6
    have hsm7 := same_eq pu a qu ca y0 x2 (OwnB.is (S2.apt.own 9 _ rfl)).1 (hra.below S2.bel) h8a (OwnB.is (S2.apt.own 9 _ rfl)).2 hna
    gi_wp2_with fail
    refine ⟨trivial, (callsIn_wide.2 hsm7).mono ?_⟩
    rintro e xq ⟨rfl, hq⟩
    have hq2 := hq.symm
    subst hq2
    clear hq hsm7
    have hsm8 := same_eq pv b qv cb y1 x2 (OwnB.is (S2.apt.own 10 _ rfl)).1 (hrb.below S2.bel) h8b (OwnB.is (S2.apt.own 10 _ rfl)).2 hnb
    gi_wp2_with fail
    refine ⟨trivial, (callsIn_wide.2 hsm8).mono ?_⟩
    rintro e xq ⟨rfl, hq⟩
    have hq2 := hq.symm
    subst hq2
    clear hq hsm8
    clear hpw hwn
    have hfi := fillB_any p1 q1 Fa 1 w.heap.size x2 (S2.apt.own 2 _ rfl) (by omega)
    gi_wp2_with fail
    refine ⟨trivial, (callsIn_wide.2 hfi).mono ?_⟩
    rintro e x3 ⟨rfl, hof, hgf⟩
    have S3 := S2.upd (k := 2) rfl hgf hof (.inl rfl)
    simp only [List.set_cons_zero, List.set_cons_succ] at S3
    have K3 := hide_it ((hgf.block D hDx2 (fun e => by obtain ⟨_, _, cc, hcc⟩ := ownsRow_blk (S2.apt.own 2 _ rfl) e.symm; rw [K2.out] at hcc; cases hcc)).trans K2.out)
    have hDx3 : D < x3.heap.size := by have := hgf.size; omega
    obtain ⟨cl3, cu3, cv3⟩ := cells x3 _ S3
    clear hfi hof hgf S2 K2 hDx2 cl2 cu2 cv2
    have hfi := fillB_any p2 q2 Fa 2 w.heap.size x3 (S3.apt.own 3 _ rfl) (by omega)
    gi_wp2_with fail
    refine ⟨trivial, (callsIn_wide.2 hfi).mono ?_⟩
    rintro e x4 ⟨rfl, hof, hgf⟩
    have S4 := S3.upd (k := 3) rfl hgf hof (.inl rfl)
    simp only [List.set_cons_zero, List.set_cons_succ] at S4
    have K4 := hide_it ((hgf.block D hDx3 (fun e => by obtain ⟨_, _, cc, hcc⟩ := ownsRow_blk (S3.apt.own 3 _ rfl) e.symm; rw [K3.out] at hcc; cases hcc)).trans K3.out)
    have hDx4 : D < x4.heap.size := by have := hgf.size; omega
    obtain ⟨cl4, cu4, cv4⟩ := cells x4 _ S4
    clear hfi hof hgf S3 K3 hDx3 cl3 cu3 cv3
    have hfi := fillB_any p7 q7 y0 3 w.heap.size x4 (S4.apt.own 7 _ rfl) (by omega)
    gi_wp2_with fail
    refine ⟨trivial, (callsIn_wide.2 hfi).mono ?_⟩
    rintro e x5 ⟨rfl, hof, hgf⟩
    have S5 := S4.upd (k := 7) rfl hgf hof (.inl rfl)
    simp only [List.set_cons_zero, List.set_cons_succ] at S5
    have K5 := hide_it ((hgf.block D hDx4 (fun e => by obtain ⟨_, _, cc, hcc⟩ := ownsRow_blk (S4.apt.own 7 _ rfl) e.symm; rw [K4.out] at hcc; cases hcc)).trans K4.out)
    have hDx5 : D < x5.heap.size := by have := hgf.size; omega
    obtain ⟨cl5, cu5, cv5⟩ := cells x5 _ S5
    clear hfi hof hgf S4 K4 hDx4 cl4 cu4 cv4
    have hfi := fillB_any p8 q8 y1 4 w.heap.size x5 (S5.apt.own 8 _ rfl) (by omega)
    gi_wp2_with fail
    refine ⟨trivial, (callsIn_wide.2 hfi).mono ?_⟩
    rintro e x6 ⟨rfl, hof, hgf⟩
    have S6 := S5.upd (k := 8) rfl hgf hof (.inl rfl)
    simp only [List.set_cons_zero, List.set_cons_succ] at S6
    have K6 := hide_it ((hgf.block D hDx5 (fun e => by obtain ⟨_, _, cc, hcc⟩ := ownsRow_blk (S5.apt.own 8 _ rfl) e.symm; rw [K5.out] at hcc; cases hcc)).trans K5.out)
    have hDx6 : D < x6.heap.size := by have := hgf.size; omega
    obtain ⟨cl6, cu6, cv6⟩ := cells x6 _ S6
    clear hfi hof hgf S5 K5 hDx5 cl5 cu5 cv5
    have hfi := fillB_any pu qu y0 5 w.heap.size x6 (S6.apt.own 9 _ rfl) (by omega)
    gi_wp2_with fail
    refine ⟨trivial, (callsIn_wide.2 hfi).mono ?_⟩
    rintro e x7 ⟨rfl, hof, hgf⟩
    have S7 := S6.upd (k := 9) rfl hgf hof (.inl rfl)
    simp only [List.set_cons_zero, List.set_cons_succ] at S7
    have K7 := hide_it ((hgf.block D hDx6 (fun e => by obtain ⟨_, _, cc, hcc⟩ := ownsRow_blk (S6.apt.own 9 _ rfl) e.symm; rw [K6.out] at hcc; cases hcc)).trans K6.out)
    have hDx7 : D < x7.heap.size := by have := hgf.size; omega
    obtain ⟨cl7, cu7, cv7⟩ := cells x7 _ S7
    clear hfi hof hgf S6 K6 hDx6 cl6 cu6 cv6
    have hfi := fillB_any pv qv y1 6 w.heap.size x7 (S7.apt.own 10 _ rfl) (by omega)
    gi_wp2_with fail
    refine ⟨trivial, (callsIn_wide.2 hfi).mono ?_⟩
    rintro e x8 ⟨rfl, hof, hgf⟩
    have S8 := S7.upd (k := 10) rfl hgf hof (.inl rfl)
    simp only [List.set_cons_zero, List.set_cons_succ] at S8
    have K8 := hide_it ((hgf.block D hDx7 (fun e => by obtain ⟨_, _, cc, hcc⟩ := ownsRow_blk (S7.apt.own 10 _ rfl) e.symm; rw [K7.out] at hcc; cases hcc)).trans K7.out)
    have hDx8 : D < x8.heap.size := by have := hgf.size; omega
    obtain ⟨cl8, cu8, cv8⟩ := cells x8 _ S8
    clear hfi hof hgf S7 K7 hDx7 cl7 cu7 cv7
    have hgr := grown_any (.slice p1 Fa.length q1) (List.replicate Fa.length 1) 101 w.heap.size x8 (S8.apt.own 2 _ rfl) (by rw [List.length_replicate]; omega) S8.bel.size
    gi_wp2_with fail
    refine ⟨trivial, (callsIn_wide.2 hgr).mono ?_⟩
    rintro e x9 ⟨⟨g2, rfl, hof, hat⟩, hgf⟩
    have S9 := S8.upd (k := 2) rfl hgf hof hat
    simp only [List.set_cons_zero, List.set_cons_succ] at S9
    have K9 := hide_it ((hgf.block D hDx8 (fun e => by obtain ⟨_, _, cc, hcc⟩ := ownsRow_blk (S8.apt.own 2 _ rfl) e.symm; rw [K8.out] at hcc; cases hcc)).trans K8.out)
    have hDx9 : D < x9.heap.size := by have := hgf.size; omega
    obtain ⟨cl9, cu9, cv9⟩ := cells x9 _ S9
    clear hgr hof hgf hat S8 K8 hDx8 cl8 cu8 cv8
    have hgr := grown_any (.slice p2 Fa.length q2) (List.replicate Fa.length 2) 102 w.heap.size x9 (S9.apt.own 3 _ rfl) (by rw [List.length_replicate]; omega) S9.bel.size
    gi_wp2_with fail
    refine ⟨trivial, (callsIn_wide.2 hgr).mono ?_⟩
    rintro e x10 ⟨⟨g3, rfl, hof, hat⟩, hgf⟩
    have S10 := S9.upd (k := 3) rfl hgf hof hat
    simp only [List.set_cons_zero, List.set_cons_succ] at S10
    have K10 := hide_it ((hgf.block D hDx9 (fun e => by obtain ⟨_, _, cc, hcc⟩ := ownsRow_blk (S9.apt.own 3 _ rfl) e.symm; rw [K9.out] at hcc; cases hcc)).trans K9.out)
    have hDx10 : D < x10.heap.size := by have := hgf.size; omega
    obtain ⟨cl10, cu10, cv10⟩ := cells x10 _ S10
    clear hgr hof hgf hat S9 K9 hDx9 cl9 cu9 cv9
    have hgr := grown_any (.slice p7 y0.length q7) (List.replicate y0.length 3) 103 w.heap.size x10 (S10.apt.own 7 _ rfl) (by rw [List.length_replicate]; omega) S10.bel.size
    gi_wp2_with fail
    refine ⟨trivial, (callsIn_wide.2 hgr).mono ?_⟩
    rintro e x11 ⟨⟨g7, rfl, hof, hat⟩, hgf⟩
    have S11 := S10.upd (k := 7) rfl hgf hof hat
    simp only [List.set_cons_zero, List.set_cons_succ] at S11
    have K11 := hide_it ((hgf.block D hDx10 (fun e => by obtain ⟨_, _, cc, hcc⟩ := ownsRow_blk (S10.apt.own 7 _ rfl) e.symm; rw [K10.out] at hcc; cases hcc)).trans K10.out)
    have hDx11 : D < x11.heap.size := by have := hgf.size; omega
    obtain ⟨cl11, cu11, cv11⟩ := cells x11 _ S11
    clear hgr hof hgf hat S10 K10 hDx10 cl10 cu10 cv10
    have hgr := grown_any (.slice p8 y1.length q8) (List.replicate y1.length 4) 104 w.heap.size x11 (S11.apt.own 8 _ rfl) (by rw [List.length_replicate]; omega) S11.bel.size
    gi_wp2_with fail
    refine ⟨trivial, (callsIn_wide.2 hgr).mono ?_⟩
    rintro e x12 ⟨⟨g8, rfl, hof, hat⟩, hgf⟩
    have S12 := S11.upd (k := 8) rfl hgf hof hat
    simp only [List.set_cons_zero, List.set_cons_succ] at S12
    have K12 := hide_it ((hgf.block D hDx11 (fun e => by obtain ⟨_, _, cc, hcc⟩ := ownsRow_blk (S11.apt.own 8 _ rfl) e.symm; rw [K11.out] at hcc; cases hcc)).trans K11.out)
    have hDx12 : D < x12.heap.size := by have := hgf.size; omega
    obtain ⟨cl12, cu12, cv12⟩ := cells x12 _ S12
    clear hgr hof hgf hat S11 K11 hDx11 cl11 cu11 cv11
    have hgr := grown_any (.slice pu y0.length qu) (List.replicate y0.length 5) 105 w.heap.size x12 (S12.apt.own 9 _ rfl) (by rw [List.length_replicate]; omega) S12.bel.size
    gi_wp2_with fail
    refine ⟨trivial, (callsIn_wide.2 hgr).mono ?_⟩
    rintro e x13 ⟨⟨g9, rfl, hof, hat⟩, hgf⟩
    have S13 := S12.upd (k := 9) rfl hgf hof hat
    simp only [List.set_cons_zero, List.set_cons_succ] at S13
    have K13 := hide_it ((hgf.block D hDx12 (fun e => by obtain ⟨_, _, cc, hcc⟩ := ownsRow_blk (S12.apt.own 9 _ rfl) e.symm; rw [K12.out] at hcc; cases hcc)).trans K12.out)
    have hDx13 : D < x13.heap.size := by have := hgf.size; omega
    obtain ⟨cl13, cu13, cv13⟩ := cells x13 _ S13
    clear hgr hof hgf hat S12 K12 hDx12 cl12 cu12 cv12
    have hgr := grown_any (.slice pv y1.length qv) (List.replicate y1.length 6) 106 w.heap.size x13 (S13.apt.own 10 _ rfl) (by rw [List.length_replicate]; omega) S13.bel.size
    gi_wp2_with fail
    refine ⟨trivial, (callsIn_wide.2 hgr).mono ?_⟩
    rintro e x14 ⟨⟨g10, rfl, hof, hat⟩, hgf⟩
    have S14 := S13.upd (k := 10) rfl hgf hof hat
    simp only [List.set_cons_zero, List.set_cons_succ] at S14
    have K14 := hide_it ((hgf.block D hDx13 (fun e => by obtain ⟨_, _, cc, hcc⟩ := ownsRow_blk (S13.apt.own 10 _ rfl) e.symm; rw [K13.out] at hcc; cases hcc)).trans K13.out)
    have hDx14 : D < x14.heap.size := by have := hgf.size; omega
    obtain ⟨cl14, cu14, cv14⟩ := cells x14 _ S14
    clear hgr hof hgf hat S13 K13 hDx13 cl13 cu13 cv13
    have hsm11 := same_eq pl pk ql qk Ls x14 (OwnB.is (S14.apt.own 0 _ rfl)).1 (OwnB.is (S14.apt.own 1 _ rfl)).1 hL8 (OwnB.is (S14.apt.own 0 _ rfl)).2 (OwnB.is (S14.apt.own 1 _ rfl)).2
    gi_wp2_with fail
    refine ⟨trivial, (callsIn_wide.2 hsm11).mono ?_⟩
    rintro e xq ⟨rfl, hq⟩
    have hq2 := hq.symm
    subst hq2
    clear hq hsm11
    have hsm12 := same_eq (some ⟨gm, om, none⟩) pn qm qn Ms x14 (OwnB.is (S14.apt.own 5 _ rfl)).1 (OwnB.is (S14.apt.own 6 _ rfl)).1 hM8 (OwnB.is (S14.apt.own 5 _ rfl)).2 (OwnB.is (S14.apt.own 6 _ rfl)).2
    gi_wp2_with fail
    refine ⟨trivial, (callsIn_wide.2 hsm12).mono ?_⟩
    rintro e xq ⟨rfl, hq⟩
    have hq2 := hq.symm
    subst hq2
    clear hq hsm12
    obtain ⟨pg2, qg2, hvg2, hpg2, _, _, hng2⟩ := (S14.apt.own 2 _ rfl).row
    dsimp only at hvg2 hpg2 hng2
    have hmr := marked_any pg2 qg2 Fa.length 1 101 x14 hpg2 (by omega) (by omega) (by omega) hng2
    rw [← hvg2] at hmr
    clear hvg2 hpg2 hng2
    gi_wp2_with fail
    refine ⟨trivial, (callsIn_wide.2 hmr).mono ?_⟩
    rintro e x15 ⟨rfl, hbm⟩
    have S15 := S14.below hbm
    have K15 := hide_it ((hbm.block D hDx14).trans K14.out)
    have hDx15 : D < x15.heap.size := by have := hbm.size; omega
    clear hmr hbm S14 K14 hDx14
    obtain ⟨pg3, qg3, hvg3, hpg3, _, _, hng3⟩ := (S15.apt.own 3 _ rfl).row
    dsimp only at hvg3 hpg3 hng3
    have hmr := marked_any pg3 qg3 Fa.length 2 102 x15 hpg3 (by omega) (by omega) (by omega) hng3
    rw [← hvg3] at hmr
    clear hvg3 hpg3 hng3
    gi_wp2_with fail
    refine ⟨trivial, (callsIn_wide.2 hmr).mono ?_⟩
    rintro e x16 ⟨rfl, hbm⟩
    have S16 := S15.below hbm
    have K16 := hide_it ((hbm.block D hDx15).trans K15.out)
    have hDx16 : D < x16.heap.size := by have := hbm.size; omega
    clear hmr hbm S15 K15 hDx15
    obtain ⟨pg7, qg7, hvg7, hpg7, _, _, hng7⟩ := (S16.apt.own 7 _ rfl).row
    dsimp only at hvg7 hpg7 hng7
    have hmr := marked_any pg7 qg7 y0.length 3 103 x16 hpg7 (by omega) (by omega) (by omega) hng7
    rw [← hvg7] at hmr
    clear hvg7 hpg7 hng7
    gi_wp2_with fail
    refine ⟨trivial, (callsIn_wide.2 hmr).mono ?_⟩
    rintro e x17 ⟨rfl, hbm⟩
    have S17 := S16.below hbm
    have K17 := hide_it ((hbm.block D hDx16).trans K16.out)
    have hDx17 : D < x17.heap.size := by have := hbm.size; omega
    clear hmr hbm S16 K16 hDx16
    obtain ⟨pg8, qg8, hvg8, hpg8, _, _, hng8⟩ := (S17.apt.own 8 _ rfl).row
    dsimp only at hvg8 hpg8 hng8
    have hmr := marked_any pg8 qg8 y1.length 4 104 x17 hpg8 (by omega) (by omega) (by omega) hng8
    rw [← hvg8] at hmr
    clear hvg8 hpg8 hng8
    gi_wp2_with fail
    refine ⟨trivial, (callsIn_wide.2 hmr).mono ?_⟩
    rintro e x18 ⟨rfl, hbm⟩
    have S18 := S17.below hbm
    have K18 := hide_it ((hbm.block D hDx17).trans K17.out)
    have hDx18 : D < x18.heap.size := by have := hbm.size; omega
    clear hmr hbm S17 K17 hDx17
    obtain ⟨pg9, qg9, hvg9, hpg9, _, _, hng9⟩ := (S18.apt.own 9 _ rfl).row
    dsimp only at hvg9 hpg9 hng9
    have hmr := marked_any pg9 qg9 y0.length 5 105 x18 hpg9 (by omega) (by omega) (by omega) hng9
    rw [← hvg9] at hmr
    clear hvg9 hpg9 hng9
    gi_wp2_with fail
    refine ⟨trivial, (callsIn_wide.2 hmr).mono ?_⟩
    rintro e x19 ⟨rfl, hbm⟩
    have S19 := S18.below hbm
    have K19 := hide_it ((hbm.block D hDx18).trans K18.out)
    have hDx19 : D < x19.heap.size := by have := hbm.size; omega
    clear hmr hbm S18 K18 hDx18
    obtain ⟨pg10, qg10, hvg10, hpg10, _, _, hng10⟩ := (S19.apt.own 10 _ rfl).row
    dsimp only at hvg10 hpg10 hng10
    have hmr := marked_any pg10 qg10 y1.length 6 106 x19 hpg10 (by omega) (by omega) (by omega) hng10
    rw [← hvg10] at hmr
    clear hvg10 hpg10 hng10
    gi_wp2_with fail
    refine ⟨trivial, (callsIn_wide.2 hmr).mono ?_⟩
    rintro e x20 ⟨rfl, hbm⟩
    have S20 := S19.below hbm
    have K20 := hide_it ((hbm.block D hDx19).trans K19.out)
    have hDx20 : D < x20.heap.size := by have := hbm.size; omega
    clear hmr hbm S19 K19 hDx19
    gi_wp2_with fail
    refine ⟨by simp, .inl ⟨_, _, rfl, run_takeDeferred K20.out, ?_⟩⟩
    refine ⟨.bool true, by simp [results, Try.results8, go_sem], rfl, ?_⟩
    exact S20.bel.trans (belowK_b (w := w) (Nat.le_refl _) _ D _ _ (by omega) K20.out rfl rfl)
  case stop =>
    rintro D c pre W _ _ h _
    exact h.elim
end Go.Proofs.Ytadceolgekbgmab.frameLeaves
