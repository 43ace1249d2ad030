/- The law of one form, walked. -/
import Derived.Test.YtfhinodieghklabForm
import Derived.Test.YtfhinodieghklabOpen8
import Derived.Test.YtfhinodieghklabReg
namespace Go.Proofs.Ytfhinodieghklab.codecForm
open Go.RowKit

theorem takeShort_bounds {low high : Int} {bs : List Nat} {n : Int} {t : List Nat} (h : takeShort low high bs = .ok (n, t)) : low ≤ n ∧ n ≤ high := by
  unfold takeShort at h
  split at h
  · cases h
  · split at h
    · cases h
    · split at h
      · cases h
      · cases h; omega

set_option maxRecDepth 100000 in
set_option maxHeartbeats 4000000 in
theorem walk (a : Option Addr) (cap : Nat) (zs : List Nat) (w : World) (hc : Came8 w a cap zs) :
    Calls Try.prog 4 #[.slice a zs.length cap] w fun e w' => e = .returned (.bool true) ∧ Below w.heap.size w w' := by
  go_enter Try.func4, Try.ntmps4
  go_wp2_with fail
  refine (fixed_all _).mono ?_
  rintro e f0 ⟨rfl, hbf⟩
  go_wp2_with fail
  refine (open_any a cap zs _ (hc.row.below hbf) hc.all (by have := hc.size; omega) hc.none).mono ?_
  rintro e w1 ⟨p1, rfl, hp1, hs1, hb1⟩
  have hbo1 := hbf.trans (hb1.mono hbf.size)
  have hpw1 : w.heap.size ≤ p1 := Nat.le_trans hbf.size hp1
  clear hb1 hp1
  go_wp2_with fail
  refine (int_any _ (-9223372036854775808) 9223372036854775807 _ _ hs1 (by omega) (by omega) (by omega) (by omega)).mono ?_
  rintro e v1 ⟨he, ht1, hg1⟩
  have hbv1 := hbo1.grown hg1 hbo1.size (fun j e => by cases e; exact hpw1)
  clear hs1 hg1 hbo1
  cases hT : takeShort (-9223372036854775808) 9223372036854775807 zs with
  | error c =>
    have hx : rdOf 0 (takeShort (-9223372036854775808) 9223372036854775807) (zs, 0) = (0, (zs, c)) := by unfold rdOf; rw [if_neg (by simp), hT]
    rw [hx] at he ht1
    subst he
    have hcz : ((c : Int) == 0) = false := by have := short_err hT; simp; omega
    clear hx hT
    go_wp2_with fail
    refine (fault_st _ _ _ ht1).mono ?_
    rintro e w' ⟨rfl, hq⟩
    have hq2 := hq.symm
    subst hq2
    clear hq
    clear ht1
    go_wp2_with fail
    refine (open_any a cap zs _ (hc.row.below hbv1) hc.all (by have := hc.size; omega) hc.none).mono ?_
    rintro e w2 ⟨p2, rfl, hp2, hs2, hb2⟩
    have hbo2 := hbv1.trans (hb2.mono hbv1.size)
    have hpw2 : w.heap.size ≤ p2 := Nat.le_trans hbv1.size hp2
    clear hb2 hp2
    go_wp2_with fail
    have hszb := hc.size
    refine (bytes_any _ (zs.length : Int) _ _ hs2 (by simp; omega) (by omega) (by omega)).mono ?_
    rintro e v2 ⟨⟨vb, he, hob⟩, ht2, hg2⟩
    have hbv2 := hbo2.grown hg2 hbo2.size (fun j e => by cases e; exact hpw2)
    clear hs2 hg2 hbo2 hszb
    subst he
    cases hT : takeCounted (zs.length : Int) zs with
    | error c =>
      have hx : rdOf [] (takeCounted (zs.length : Int)) (zs, 0) = ([], (zs, c)) := by unfold rdOf; rw [if_neg (by simp), hT]
      rw [hx] at ht2 hob
      have hcz : ((c : Int) == 0) = false := by have := counted_err hT; simp; omega
      clear hx hT hob
      go_wp2_with fail
      refine (fault_st _ _ _ ht2).mono ?_
      rintro e w' ⟨rfl, hq⟩
      have hq2 := hq.symm
      subst hq2
      clear hq
      clear ht2
      go_wp2_with fail
      refine (open_any a cap zs _ (hc.row.below hbv2) hc.all (by have := hc.size; omega) hc.none).mono ?_
      rintro e w3 ⟨p3, rfl, hp3, hs3, hb3⟩
      have hbo3 := hbv2.trans (hb3.mono hbv2.size)
      have hpw3 : w.heap.size ≤ p3 := Nat.le_trans hbv2.size hp3
      clear hb3 hp3
      go_wp2_with fail
      refine (take32 _ _ _ hs3).mono ?_
      rintro e v3 ⟨he, ht3, hg3⟩
      have hbv3 := hbo3.grown hg3 hbo3.size (fun j e => by cases e; exact hpw3)
      clear hs3 hg3 hbo3
      cases hT : takeFixed 4 zs with
      | error c =>
        have hx : rdOf 0 (takeFixed 4) (zs, 0) = (0, (zs, c)) := by unfold rdOf; rw [if_neg (by simp), hT]
        rw [hx] at he ht3
        subst he
        obtain rfl : c = 20 := by
          unfold takeFixed at hT
          split at hT
          · cases hT; rfl
          · cases hT
        clear hx hT
        go_wp2_with fail
        refine wp_region_held_drew (S := (fun w' => Below w.heap.size w w' ∧ Rst w' (some ⟨p3, 0, none⟩) (zs, 20))) (by kernel_rfl) ?_ (fun hHeld => ?_)
        · exact ⟨hbv3.drew, ht3.below (Below.refl _ _).drew⟩
        refine take_on (i := 0) (v := ?_) rfl rfl (by kernel_rfl) (by kernel_rfl) (by kernel_rfl) (fun _ _ _ h => h) rfl ?_ hHeld ?_
        rotate_left
        · (intro wq hSq; skip; go_simp <;> first | with_reducible rfl | rfl)
        simp only [Act.put, List.setIfInBounds_toArray, List.set_cons_zero, List.set_cons_succ]
        refine take_one (i := 1) rfl (by kernel_rfl) (fun K hK => ?_)
        go_simp
        refine (fault_st _ _ _ hHeld.2).mono ?_; rintro e w1 ⟨rfl, hq⟩; have hq2 := hq.symm; subst hq2; clear hq
        try go_wp2_with fail
        refine hK.out _ _ ?_ (fun hHeld => ?_)
        · exact hHeld
        clear hK K
        try simp only [Act.put, List.setIfInBounds_toArray, List.set_cons_zero, List.set_cons_succ]
        refine take_on (i := 2) (v := ?_) rfl rfl (by kernel_rfl) (by kernel_rfl) (by kernel_rfl) (fun _ _ _ h => h) rfl ?_ hHeld ?_
        rotate_left
        · (intro wq hSq; skip; go_simp <;> first | with_reducible rfl | rfl)
        simp only [Act.put, List.setIfInBounds_toArray, List.set_cons_zero, List.set_cons_succ]
        refine take_on (i := 3) (v := ?_) rfl rfl (by kernel_rfl) (by kernel_rfl) (by kernel_rfl) (fun _ _ _ h => h) rfl ?_ hHeld ?_
        rotate_left
        · (intro wq hSq; skip; go_simp <;> first | with_reducible rfl | rfl)
        simp only [Act.put, List.setIfInBounds_toArray, List.set_cons_zero, List.set_cons_succ]
        refine take_off (i := 4) rfl rfl (by kernel_rfl) (by kernel_rfl) (by kernel_rfl) (fun _ _ _ h => h) rfl hHeld ?_
        simp only [Act.put, List.setIfInBounds_toArray, List.set_cons_zero, List.set_cons_succ]
        refine take_off (i := 5) rfl rfl (by kernel_rfl) (by kernel_rfl) (by kernel_rfl) (fun _ _ _ h => h) rfl hHeld ?_
        simp only [Act.put, List.setIfInBounds_toArray, List.set_cons_zero, List.set_cons_succ]
        refine take_off (i := 6) rfl rfl (by kernel_rfl) (by kernel_rfl) (by kernel_rfl) (fun _ _ _ h => h) rfl hHeld ?_
        simp only [Act.put, List.setIfInBounds_toArray, List.set_cons_zero, List.set_cons_succ]
        refine take_off (i := 7) rfl rfl (by kernel_rfl) (by kernel_rfl) (by kernel_rfl) (fun _ _ _ h => h) rfl hHeld ?_
        simp only [Act.put, List.setIfInBounds_toArray, List.set_cons_zero, List.set_cons_succ]
        refine take_off (i := 8) rfl rfl (by kernel_rfl) (by kernel_rfl) (by kernel_rfl) (fun _ _ _ h => h) rfl hHeld ?_
        simp only [Act.put, List.setIfInBounds_toArray, List.set_cons_zero, List.set_cons_succ]
        refine take_on (i := 9) (v := ?_) rfl rfl (by kernel_rfl) (by kernel_rfl) (by kernel_rfl) (fun _ _ _ h => h) rfl ?_ hHeld ?_
        rotate_left
        · (intro wq hSq; skip; go_simp <;> first | with_reducible rfl | rfl)
        simp only [Act.put, List.setIfInBounds_toArray, List.set_cons_zero, List.set_cons_succ]
        refine take_on (i := 10) (v := ?_) rfl rfl (by kernel_rfl) (by kernel_rfl) (by kernel_rfl) (fun _ _ _ h => h) rfl ?_ hHeld ?_
        rotate_left
        · (intro wq hSq; skip; go_simp <;> first | with_reducible rfl | rfl)
        simp only [Act.put, List.setIfInBounds_toArray, List.set_cons_zero, List.set_cons_succ]
        refine wpAnyH_done (by kernel_rfl) ?_ _
        go_wp2_with fail
        go_ret
        exact ⟨rfl, hHeld.1⟩
      | ok x =>
        obtain ⟨v, t⟩ := x
        have hx : rdOf 0 (takeFixed 4) (zs, 0) = (v, (t, 0)) := by unfold rdOf; rw [if_neg (by simp), hT]
        rw [hx] at he ht3
        subst he
        have hvl : v < 4294967296 := takeFixed_lt hc.all hT
        have h4 : 4 ≤ zs.length ∧ v = beVal (zs.take 4) := by
          unfold takeFixed at hT
          split at hT
          · cases hT
          · cases hT; exact ⟨by omega, rfl⟩
        have hsl : RowB w a (beP 4 v 4) := by
          have h := (RowLt.of_row hc.row).take 4
          have e3 := be_form (hc.all.take 4)
          have e4 : (zs.take 4).length = 4 := by simp; omega
          rw [e4, ← h4.2] at e3
          rw [e3]
          exact h.row
        have hz4 : 4 ≤ zs.length := h4.1
        clear hx hT h4
        have hlb : (beP 4 v 4).length = 4 := beP_len 4 v 4
        have hff := hc.fits
        have hcm := hc.capm
        unfold maxLen at hcm
        have hi4 : (4 : Int) ≤ (cap : Int) := by omega
        have HSL := hide_it hsl
        clear hsl
        go_wp2_with fail
        refine wp_region_held_drew (S := (fun w' => Below w.heap.size w w' ∧ Rst w' (some ⟨p3, 0, none⟩) (t, 0))) (by kernel_rfl) ?_ (fun hHeld => ?_)
        · exact ⟨hbv3.drew, ht3.below (Below.refl _ _).drew⟩
        refine take_on (i := 0) (v := ?_) rfl rfl (by kernel_rfl) (by kernel_rfl) (by kernel_rfl) (fun _ _ _ h => h) rfl ?_ hHeld ?_
        rotate_left
        · (intro wq hSq; skip; go_simp <;> first | with_reducible rfl | rfl)
        simp only [Act.put, List.setIfInBounds_toArray, List.set_cons_zero, List.set_cons_succ]
        refine take_one (i := 1) rfl (by kernel_rfl) (fun K hK => ?_)
        go_simp
        refine (fault_st _ _ _ hHeld.2).mono ?_; rintro e w1 ⟨rfl, hq⟩; have hq2 := hq.symm; subst hq2; clear hq
        try go_wp2_with fail
        refine hK.out _ _ ?_ (fun hHeld => ?_)
        · exact hHeld
        clear hK K
        try simp only [Act.put, List.setIfInBounds_toArray, List.set_cons_zero, List.set_cons_succ]
        refine take_on (i := 2) (v := ?_) rfl rfl (by kernel_rfl) (by kernel_rfl) (by kernel_rfl) (fun _ _ _ h => h) rfl ?_ hHeld ?_
        rotate_left
        · (intro wq hSq; skip; go_simp <;> first | with_reducible rfl | rfl)
        simp only [Act.put, List.setIfInBounds_toArray, List.set_cons_zero, List.set_cons_succ]
        refine take_on (i := 3) (v := ?_) rfl rfl (by kernel_rfl) (by kernel_rfl) (by kernel_rfl) (fun _ _ _ h => h) rfl ?_ hHeld ?_
        rotate_left
        · (intro wq hSq; skip; go_simp <;> first | with_reducible rfl | rfl)
        simp only [Act.put, List.setIfInBounds_toArray, List.set_cons_zero, List.set_cons_succ]
        refine take_on (i := 4) (v := ?_) rfl rfl (by kernel_rfl) (by kernel_rfl) (by kernel_rfl) (fun _ _ _ h => h) rfl ?_ hHeld ?_
        rotate_left
        · (intro wq hSq; skip; go_simp <;> first | with_reducible rfl | rfl)
        simp only [Act.put, List.setIfInBounds_toArray, List.set_cons_zero, List.set_cons_succ]
        refine take_on (i := 6) (v := ?_) rfl rfl (by kernel_rfl) (by kernel_rfl) (by kernel_rfl) (fun _ _ _ h => h) rfl ?_ hHeld ?_
        rotate_left
        · (intro wq hSq; skip; go_simp <;> first | with_reducible rfl | rfl)
        simp only [Act.put, List.setIfInBounds_toArray, List.set_cons_zero, List.set_cons_succ]
        refine take_on (i := 7) (v := ?_) rfl rfl (by kernel_rfl) (by kernel_rfl) (by kernel_rfl) (fun _ _ _ h => h) rfl ?_ hHeld ?_
        rotate_left
        · (intro wq hSq; skip; go_simp <;> first | with_reducible rfl | rfl)
        simp only [Act.put, List.setIfInBounds_toArray, List.set_cons_zero, List.set_cons_succ]
        refine take_one (i := 5) rfl (by kernel_rfl) (fun K hK => ?_)
        go_simp
        refine (put32 none 0 v [] _ hvl (.inl rfl) (by simp) (fun _ => ⟨rfl, rfl⟩)).mono ?_; rintro e z3 ⟨⟨r, rfl, ho⟩, hbz⟩; have hbz3 := hHeld.1.trans (hbz.mono hHeld.1.size); have hst3 := hHeld.2.below hbz; obtain ⟨ra, rc, hv, hrr, _, _, _⟩ := ho.row; subst hv; rw [List.nil_append] at hrr; rw [List.nil_append, hlb]; have heq := equal_any ra a rc cap (beP 4 v 4) (beP 4 v 4) _ hrr (HSL.out.below hbz3) (by rw [hlb]; simp [maxLen]) (by rw [hlb]; simp [maxLen]); have hd : decide (beP 4 v 4 = beP 4 v 4) = true := decide_eq_true rfl; rw [hd, hlb] at heq; clear hd ho hrr hbz
        try go_wp2_with fail
        refine hK.out _ _ ?_ (fun hHeld => ?_)
        · exact ⟨hbz3, hst3⟩
        clear hK K
        try simp only [Act.put, List.setIfInBounds_toArray, List.set_cons_zero, List.set_cons_succ]
        refine take_one (i := 8) rfl (by kernel_rfl) (fun K hK => ?_)
        go_simp
        refine heq.mono ?_; rintro e y3 ⟨rfl, q3, rfl⟩
        try go_wp2_with fail
        refine hK.out _ _ ?_ (fun hHeld => ?_)
        · exact ⟨below_drewN hHeld.1 q3, hHeld.2.below (below_drewN (Below.refl _ _) q3)⟩
        clear hK K
        try simp only [Act.put, List.setIfInBounds_toArray, List.set_cons_zero, List.set_cons_succ]
        refine take_on (i := 9) (v := ?_) rfl rfl (by kernel_rfl) (by kernel_rfl) (by kernel_rfl) (fun _ _ _ h => h) rfl ?_ hHeld ?_
        rotate_left
        · (intro wq hSq; skip; go_simp <;> first | with_reducible rfl | rfl)
        simp only [Act.put, List.setIfInBounds_toArray, List.set_cons_zero, List.set_cons_succ]
        refine take_on (i := 10) (v := ?_) rfl rfl (by kernel_rfl) (by kernel_rfl) (by kernel_rfl) (fun _ _ _ h => h) rfl ?_ hHeld ?_
        rotate_left
        · (intro wq hSq; skip; go_simp <;> first | with_reducible rfl | rfl)
        simp only [Act.put, List.setIfInBounds_toArray, List.set_cons_zero, List.set_cons_succ]
        refine wpAnyH_done (by kernel_rfl) ?_ _
        go_wp2_with fail
        go_ret
        exact ⟨rfl, hHeld.1⟩

    | ok x =>
      obtain ⟨p, t⟩ := x
      have hx : rdOf [] (takeCounted (zs.length : Int)) (zs, 0) = (p, (t, 0)) := by unfold rdOf; rw [if_neg (by simp), hT]
      rw [hx] at ht2 hob
      have hfm := counted_form hc.all hT
      have hpl := (takeCounted_len hT).1
      have hlz : zs.length = (shortL (2 * p.length) ++ p).length + t.length := by rw [← List.length_append, ← hfm]
      have hm : (zs.length : Int) - (t.length : Int) = (((shortL (2 * p.length) ++ p).length : Nat) : Int) := by omega
      have hsl : RowB w a (shortL (2 * p.length) ++ p) := by
        have h := (RowLt.of_row hc.row).take (shortL (2 * p.length) ++ p).length
        have e2 : zs.take (shortL (2 * p.length) ++ p).length = shortL (2 * p.length) ++ p := by
          conv => lhs; rw [hfm]
          exact List.take_left
        rw [e2] at h
        exact h.row
      obtain ⟨L, hL⟩ : ∃ L, L = shortL (2 * p.length) ++ p := ⟨_, rfl⟩
      have hLl : L.length ≤ zs.length := by rw [hL]; omega
      rw [← hL] at hm hsl
      have HL := hide_it hL
      have HM := hide_it hm
      obtain ⟨ba, bc, hvb, hrb, _, _, hnb⟩ := hob.row
      subst hvb
      clear hx hT hfm hlz hL hm hob
      go_wp2_with fail
      refine (fault_st _ _ _ ht2).mono ?_
      rintro e w' ⟨rfl, hq⟩
      have hq2 := hq.symm
      subst hq2
      clear hq
      go_wp2_with fail
      have hszz := hc.size
      have hpi := putBytes_any none ba 0 bc [] p v2 (.inl rfl) hrb (by simp; omega) (fun _ => ⟨rfl, rfl⟩) hnb
      rw [List.nil_append, ← HL.out] at hpi
      refine hpi.mono ?_
      rintro e z2 ⟨⟨r, rfl, ho⟩, hbz⟩
      have hbz2 := hbv2.trans (hbz.mono hbv2.size)
      have hlz2 := ht2.below hbz
      obtain ⟨ra, rc, hv, hrr, _, _, _⟩ := ho.row
      subst hv
      clear hpi ho hbz hbv2 ht2 hrb hnb
      go_wp2_with fail
      refine (left_st _ _ _ hlz2).mono ?_
      rintro e w' ⟨rfl, hq⟩
      have hq2 := hq.symm
      subst hq2
      clear hq
      clear hlz2
      have hff := hc.fits
      have hcm := hc.capm
      unfold maxLen at hcm
      have hmm := HM.out
      have hll : (L.length : Int) ≤ (zs.length : Int) := by omega
      go_wp2_with fail
      have heq := equal_any ra a rc cap L L _ hrr (hsl.below hbz2) (by unfold maxLen; omega) (by unfold maxLen; omega)
      have hd : decide (L = L) = true := decide_eq_true rfl
      rw [hd] at heq
      clear hd
      refine heq.mono ?_
      rintro e y2 ⟨rfl, q2, rfl⟩
      have hby2 := below_drewN hbz2 q2
      clear heq hrr hsl hbz2 HL HM hmm hll hLl hszz hff hcm hpl
      go_wp2_with fail
      refine (open_any a cap zs _ (hc.row.below hby2) hc.all (by have := hc.size; omega) hc.none).mono ?_
      rintro e w3 ⟨p3, rfl, hp3, hs3, hb3⟩
      have hbo3 := hby2.trans (hb3.mono hby2.size)
      have hpw3 : w.heap.size ≤ p3 := Nat.le_trans hby2.size hp3
      clear hb3 hp3
      go_wp2_with fail
      refine (take32 _ _ _ hs3).mono ?_
      rintro e v3 ⟨he, ht3, hg3⟩
      have hbv3 := hbo3.grown hg3 hbo3.size (fun j e => by cases e; exact hpw3)
      clear hs3 hg3 hbo3
      cases hT : takeFixed 4 zs with
      | error c =>
        have hx : rdOf 0 (takeFixed 4) (zs, 0) = (0, (zs, c)) := by unfold rdOf; rw [if_neg (by simp), hT]
        rw [hx] at he ht3
        subst he
        obtain rfl : c = 20 := by
          unfold takeFixed at hT
          split at hT
          · cases hT; rfl
          · cases hT
        clear hx hT
        go_wp2_with fail
        refine wp_region_held_drew (S := (fun w' => Below w.heap.size w w' ∧ Rst w' (some ⟨p3, 0, none⟩) (zs, 20))) (by kernel_rfl) ?_ (fun hHeld => ?_)
        · exact ⟨hbv3.drew, ht3.below (Below.refl _ _).drew⟩
        refine take_on (i := 0) (v := ?_) rfl rfl (by kernel_rfl) (by kernel_rfl) (by kernel_rfl) (fun _ _ _ h => h) rfl ?_ hHeld ?_
        rotate_left
        · (intro wq hSq; skip; go_simp <;> first | with_reducible rfl | rfl)
        simp only [Act.put, List.setIfInBounds_toArray, List.set_cons_zero, List.set_cons_succ]
        refine take_one (i := 1) rfl (by kernel_rfl) (fun K hK => ?_)
        go_simp
        refine (fault_st _ _ _ hHeld.2).mono ?_; rintro e w1 ⟨rfl, hq⟩; have hq2 := hq.symm; subst hq2; clear hq
        try go_wp2_with fail
        refine hK.out _ _ ?_ (fun hHeld => ?_)
        · exact hHeld
        clear hK K
        try simp only [Act.put, List.setIfInBounds_toArray, List.set_cons_zero, List.set_cons_succ]
        refine take_on (i := 2) (v := ?_) rfl rfl (by kernel_rfl) (by kernel_rfl) (by kernel_rfl) (fun _ _ _ h => h) rfl ?_ hHeld ?_
        rotate_left
        · (intro wq hSq; skip; go_simp <;> first | with_reducible rfl | rfl)
        simp only [Act.put, List.setIfInBounds_toArray, List.set_cons_zero, List.set_cons_succ]
        refine take_on (i := 3) (v := ?_) rfl rfl (by kernel_rfl) (by kernel_rfl) (by kernel_rfl) (fun _ _ _ h => h) rfl ?_ hHeld ?_
        rotate_left
        · (intro wq hSq; skip; go_simp <;> first | with_reducible rfl | rfl)
        simp only [Act.put, List.setIfInBounds_toArray, List.set_cons_zero, List.set_cons_succ]
        refine take_off (i := 4) rfl rfl (by kernel_rfl) (by kernel_rfl) (by kernel_rfl) (fun _ _ _ h => h) rfl hHeld ?_
        simp only [Act.put, List.setIfInBounds_toArray, List.set_cons_zero, List.set_cons_succ]
        refine take_off (i := 5) rfl rfl (by kernel_rfl) (by kernel_rfl) (by kernel_rfl) (fun _ _ _ h => h) rfl hHeld ?_
        simp only [Act.put, List.setIfInBounds_toArray, List.set_cons_zero, List.set_cons_succ]
        refine take_off (i := 6) rfl rfl (by kernel_rfl) (by kernel_rfl) (by kernel_rfl) (fun _ _ _ h => h) rfl hHeld ?_
        simp only [Act.put, List.setIfInBounds_toArray, List.set_cons_zero, List.set_cons_succ]
        refine take_off (i := 7) rfl rfl (by kernel_rfl) (by kernel_rfl) (by kernel_rfl) (fun _ _ _ h => h) rfl hHeld ?_
        simp only [Act.put, List.setIfInBounds_toArray, List.set_cons_zero, List.set_cons_succ]
        refine take_off (i := 8) rfl rfl (by kernel_rfl) (by kernel_rfl) (by kernel_rfl) (fun _ _ _ h => h) rfl hHeld ?_
        simp only [Act.put, List.setIfInBounds_toArray, List.set_cons_zero, List.set_cons_succ]
        refine take_on (i := 9) (v := ?_) rfl rfl (by kernel_rfl) (by kernel_rfl) (by kernel_rfl) (fun _ _ _ h => h) rfl ?_ hHeld ?_
        rotate_left
        · (intro wq hSq; skip; go_simp <;> first | with_reducible rfl | rfl)
        simp only [Act.put, List.setIfInBounds_toArray, List.set_cons_zero, List.set_cons_succ]
        refine take_on (i := 10) (v := ?_) rfl rfl (by kernel_rfl) (by kernel_rfl) (by kernel_rfl) (fun _ _ _ h => h) rfl ?_ hHeld ?_
        rotate_left
        · (intro wq hSq; skip; go_simp <;> first | with_reducible rfl | rfl)
        simp only [Act.put, List.setIfInBounds_toArray, List.set_cons_zero, List.set_cons_succ]
        refine wpAnyH_done (by kernel_rfl) ?_ _
        go_wp2_with fail
        go_ret
        exact ⟨rfl, hHeld.1⟩
      | ok x =>
        obtain ⟨v, t⟩ := x
        have hx : rdOf 0 (takeFixed 4) (zs, 0) = (v, (t, 0)) := by unfold rdOf; rw [if_neg (by simp), hT]
        rw [hx] at he ht3
        subst he
        have hvl : v < 4294967296 := takeFixed_lt hc.all hT
        have h4 : 4 ≤ zs.length ∧ v = beVal (zs.take 4) := by
          unfold takeFixed at hT
          split at hT
          · cases hT
          · cases hT; exact ⟨by omega, rfl⟩
        have hsl : RowB w a (beP 4 v 4) := by
          have h := (RowLt.of_row hc.row).take 4
          have e3 := be_form (hc.all.take 4)
          have e4 : (zs.take 4).length = 4 := by simp; omega
          rw [e4, ← h4.2] at e3
          rw [e3]
          exact h.row
        have hz4 : 4 ≤ zs.length := h4.1
        clear hx hT h4
        have hlb : (beP 4 v 4).length = 4 := beP_len 4 v 4
        have hff := hc.fits
        have hcm := hc.capm
        unfold maxLen at hcm
        have hi4 : (4 : Int) ≤ (cap : Int) := by omega
        have HSL := hide_it hsl
        clear hsl
        go_wp2_with fail
        refine wp_region_held_drew (S := (fun w' => Below w.heap.size w w' ∧ Rst w' (some ⟨p3, 0, none⟩) (t, 0))) (by kernel_rfl) ?_ (fun hHeld => ?_)
        · exact ⟨hbv3.drew, ht3.below (Below.refl _ _).drew⟩
        refine take_on (i := 0) (v := ?_) rfl rfl (by kernel_rfl) (by kernel_rfl) (by kernel_rfl) (fun _ _ _ h => h) rfl ?_ hHeld ?_
        rotate_left
        · (intro wq hSq; skip; go_simp <;> first | with_reducible rfl | rfl)
        simp only [Act.put, List.setIfInBounds_toArray, List.set_cons_zero, List.set_cons_succ]
        refine take_one (i := 1) rfl (by kernel_rfl) (fun K hK => ?_)
        go_simp
        refine (fault_st _ _ _ hHeld.2).mono ?_; rintro e w1 ⟨rfl, hq⟩; have hq2 := hq.symm; subst hq2; clear hq
        try go_wp2_with fail
        refine hK.out _ _ ?_ (fun hHeld => ?_)
        · exact hHeld
        clear hK K
        try simp only [Act.put, List.setIfInBounds_toArray, List.set_cons_zero, List.set_cons_succ]
        refine take_on (i := 2) (v := ?_) rfl rfl (by kernel_rfl) (by kernel_rfl) (by kernel_rfl) (fun _ _ _ h => h) rfl ?_ hHeld ?_
        rotate_left
        · (intro wq hSq; skip; go_simp <;> first | with_reducible rfl | rfl)
        simp only [Act.put, List.setIfInBounds_toArray, List.set_cons_zero, List.set_cons_succ]
        refine take_on (i := 3) (v := ?_) rfl rfl (by kernel_rfl) (by kernel_rfl) (by kernel_rfl) (fun _ _ _ h => h) rfl ?_ hHeld ?_
        rotate_left
        · (intro wq hSq; skip; go_simp <;> first | with_reducible rfl | rfl)
        simp only [Act.put, List.setIfInBounds_toArray, List.set_cons_zero, List.set_cons_succ]
        refine take_on (i := 4) (v := ?_) rfl rfl (by kernel_rfl) (by kernel_rfl) (by kernel_rfl) (fun _ _ _ h => h) rfl ?_ hHeld ?_
        rotate_left
        · (intro wq hSq; skip; go_simp <;> first | with_reducible rfl | rfl)
        simp only [Act.put, List.setIfInBounds_toArray, List.set_cons_zero, List.set_cons_succ]
        refine take_on (i := 6) (v := ?_) rfl rfl (by kernel_rfl) (by kernel_rfl) (by kernel_rfl) (fun _ _ _ h => h) rfl ?_ hHeld ?_
        rotate_left
        · (intro wq hSq; skip; go_simp <;> first | with_reducible rfl | rfl)
        simp only [Act.put, List.setIfInBounds_toArray, List.set_cons_zero, List.set_cons_succ]
        refine take_on (i := 7) (v := ?_) rfl rfl (by kernel_rfl) (by kernel_rfl) (by kernel_rfl) (fun _ _ _ h => h) rfl ?_ hHeld ?_
        rotate_left
        · (intro wq hSq; skip; go_simp <;> first | with_reducible rfl | rfl)
        simp only [Act.put, List.setIfInBounds_toArray, List.set_cons_zero, List.set_cons_succ]
        refine take_one (i := 5) rfl (by kernel_rfl) (fun K hK => ?_)
        go_simp
        refine (put32 none 0 v [] _ hvl (.inl rfl) (by simp) (fun _ => ⟨rfl, rfl⟩)).mono ?_; rintro e z3 ⟨⟨r, rfl, ho⟩, hbz⟩; have hbz3 := hHeld.1.trans (hbz.mono hHeld.1.size); have hst3 := hHeld.2.below hbz; obtain ⟨ra, rc, hv, hrr, _, _, _⟩ := ho.row; subst hv; rw [List.nil_append] at hrr; rw [List.nil_append, hlb]; have heq := equal_any ra a rc cap (beP 4 v 4) (beP 4 v 4) _ hrr (HSL.out.below hbz3) (by rw [hlb]; simp [maxLen]) (by rw [hlb]; simp [maxLen]); have hd : decide (beP 4 v 4 = beP 4 v 4) = true := decide_eq_true rfl; rw [hd, hlb] at heq; clear hd ho hrr hbz
        try go_wp2_with fail
        refine hK.out _ _ ?_ (fun hHeld => ?_)
        · exact ⟨hbz3, hst3⟩
        clear hK K
        try simp only [Act.put, List.setIfInBounds_toArray, List.set_cons_zero, List.set_cons_succ]
        refine take_one (i := 8) rfl (by kernel_rfl) (fun K hK => ?_)
        go_simp
        refine heq.mono ?_; rintro e y3 ⟨rfl, q3, rfl⟩
        try go_wp2_with fail
        refine hK.out _ _ ?_ (fun hHeld => ?_)
        · exact ⟨below_drewN hHeld.1 q3, hHeld.2.below (below_drewN (Below.refl _ _) q3)⟩
        clear hK K
        try simp only [Act.put, List.setIfInBounds_toArray, List.set_cons_zero, List.set_cons_succ]
        refine take_on (i := 9) (v := ?_) rfl rfl (by kernel_rfl) (by kernel_rfl) (by kernel_rfl) (fun _ _ _ h => h) rfl ?_ hHeld ?_
        rotate_left
        · (intro wq hSq; skip; go_simp <;> first | with_reducible rfl | rfl)
        simp only [Act.put, List.setIfInBounds_toArray, List.set_cons_zero, List.set_cons_succ]
        refine take_on (i := 10) (v := ?_) rfl rfl (by kernel_rfl) (by kernel_rfl) (by kernel_rfl) (fun _ _ _ h => h) rfl ?_ hHeld ?_
        rotate_left
        · (intro wq hSq; skip; go_simp <;> first | with_reducible rfl | rfl)
        simp only [Act.put, List.setIfInBounds_toArray, List.set_cons_zero, List.set_cons_succ]
        refine wpAnyH_done (by kernel_rfl) ?_ _
        go_wp2_with fail
        go_ret
        exact ⟨rfl, hHeld.1⟩


  | ok x =>
    obtain ⟨n, t⟩ := x
    have hx : rdOf 0 (takeShort (-9223372036854775808) 9223372036854775807) (zs, 0) = (n, (t, 0)) := by unfold rdOf; rw [if_neg (by simp), hT]
    rw [hx] at he ht1
    subst he
    have hn := takeShort_bounds hT
    have hfm := short_form hc.all hT
    have hlz : zs.length = (shortL (foldI n)).length + t.length := by rw [← List.length_append, ← hfm]
    have hm : (zs.length : Int) - (t.length : Int) = (((shortL (foldI n)).length : Nat) : Int) := by omega
    have hsl : RowB w a (shortL (foldI n)) := by
      have h := (RowLt.of_row hc.row).take (shortL (foldI n)).length
      have e2 : zs.take (shortL (foldI n)).length = shortL (foldI n) := by rw [hfm]; simp
      rw [e2] at h
      exact h.row
    obtain ⟨L, hL⟩ : ∃ L, L = shortL (foldI n) := ⟨_, rfl⟩
    have hLl : L.length ≤ zs.length := by rw [hL]; omega
    rw [← hL] at hm hsl
    have HL := hide_it hL
    have HM := hide_it hm
    clear hx hT hfm hlz hL hm
    go_wp2_with fail
    refine (fault_st _ _ _ ht1).mono ?_
    rintro e w' ⟨rfl, hq⟩
    have hq2 := hq.symm
    subst hq2
    clear hq
    go_wp2_with fail
    have hpi := putInt_any none 0 n [] v1 hn.1 hn.2 (.inl rfl) (by simp) (fun _ => ⟨rfl, rfl⟩)
    rw [List.nil_append, ← HL.out] at hpi
    refine hpi.mono ?_
    rintro e z1 ⟨⟨r, rfl, ho⟩, hbz⟩
    have hbz1 := hbv1.trans (hbz.mono hbv1.size)
    have hlz1 := ht1.below hbz
    obtain ⟨ra, rc, hv, hrr, _, _, _⟩ := ho.row
    subst hv
    clear hpi ho hbz hbv1 ht1
    go_wp2_with fail
    refine (left_st _ _ _ hlz1).mono ?_
    rintro e w' ⟨rfl, hq⟩
    have hq2 := hq.symm
    subst hq2
    clear hq
    clear hlz1
    have hszz := hc.size
    have hff := hc.fits
    have hcm := hc.capm
    unfold maxLen at hcm
    have hmm := HM.out
    have hll : (L.length : Int) ≤ (zs.length : Int) := by omega
    go_wp2_with fail
    have heq := equal_any ra a rc cap L L _ hrr (hsl.below hbz1) (by unfold maxLen; omega) (by unfold maxLen; omega)
    have hd : decide (L = L) = true := decide_eq_true rfl
    rw [hd] at heq
    clear hd
    refine heq.mono ?_
    rintro e y1 ⟨rfl, q1, rfl⟩
    have hby1 := below_drewN hbz1 q1
    clear heq hrr hsl hbz1 HL HM hmm hll hLl hszz hff hcm
    go_wp2_with fail
    refine (open_any a cap zs _ (hc.row.below hby1) hc.all (by have := hc.size; omega) hc.none).mono ?_
    rintro e w2 ⟨p2, rfl, hp2, hs2, hb2⟩
    have hbo2 := hby1.trans (hb2.mono hby1.size)
    have hpw2 : w.heap.size ≤ p2 := Nat.le_trans hby1.size hp2
    clear hb2 hp2
    go_wp2_with fail
    have hszb := hc.size
    refine (bytes_any _ (zs.length : Int) _ _ hs2 (by simp; omega) (by omega) (by omega)).mono ?_
    rintro e v2 ⟨⟨vb, he, hob⟩, ht2, hg2⟩
    have hbv2 := hbo2.grown hg2 hbo2.size (fun j e => by cases e; exact hpw2)
    clear hs2 hg2 hbo2 hszb
    subst he
    cases hT : takeCounted (zs.length : Int) zs with
    | error c =>
      have hx : rdOf [] (takeCounted (zs.length : Int)) (zs, 0) = ([], (zs, c)) := by unfold rdOf; rw [if_neg (by simp), hT]
      rw [hx] at ht2 hob
      have hcz : ((c : Int) == 0) = false := by have := counted_err hT; simp; omega
      clear hx hT hob
      go_wp2_with fail
      refine (fault_st _ _ _ ht2).mono ?_
      rintro e w' ⟨rfl, hq⟩
      have hq2 := hq.symm
      subst hq2
      clear hq
      clear ht2
      go_wp2_with fail
      refine (open_any a cap zs _ (hc.row.below hbv2) hc.all (by have := hc.size; omega) hc.none).mono ?_
      rintro e w3 ⟨p3, rfl, hp3, hs3, hb3⟩
      have hbo3 := hbv2.trans (hb3.mono hbv2.size)
      have hpw3 : w.heap.size ≤ p3 := Nat.le_trans hbv2.size hp3
      clear hb3 hp3
      go_wp2_with fail
      refine (take32 _ _ _ hs3).mono ?_
      rintro e v3 ⟨he, ht3, hg3⟩
      have hbv3 := hbo3.grown hg3 hbo3.size (fun j e => by cases e; exact hpw3)
      clear hs3 hg3 hbo3
      cases hT : takeFixed 4 zs with
      | error c =>
        have hx : rdOf 0 (takeFixed 4) (zs, 0) = (0, (zs, c)) := by unfold rdOf; rw [if_neg (by simp), hT]
        rw [hx] at he ht3
        subst he
        obtain rfl : c = 20 := by
          unfold takeFixed at hT
          split at hT
          · cases hT; rfl
          · cases hT
        clear hx hT
        go_wp2_with fail
        refine wp_region_held_drew (S := (fun w' => Below w.heap.size w w' ∧ Rst w' (some ⟨p3, 0, none⟩) (zs, 20))) (by kernel_rfl) ?_ (fun hHeld => ?_)
        · exact ⟨hbv3.drew, ht3.below (Below.refl _ _).drew⟩
        refine take_on (i := 0) (v := ?_) rfl rfl (by kernel_rfl) (by kernel_rfl) (by kernel_rfl) (fun _ _ _ h => h) rfl ?_ hHeld ?_
        rotate_left
        · (intro wq hSq; skip; go_simp <;> first | with_reducible rfl | rfl)
        simp only [Act.put, List.setIfInBounds_toArray, List.set_cons_zero, List.set_cons_succ]
        refine take_one (i := 1) rfl (by kernel_rfl) (fun K hK => ?_)
        go_simp
        refine (fault_st _ _ _ hHeld.2).mono ?_; rintro e w1 ⟨rfl, hq⟩; have hq2 := hq.symm; subst hq2; clear hq
        try go_wp2_with fail
        refine hK.out _ _ ?_ (fun hHeld => ?_)
        · exact hHeld
        clear hK K
        try simp only [Act.put, List.setIfInBounds_toArray, List.set_cons_zero, List.set_cons_succ]
        refine take_on (i := 2) (v := ?_) rfl rfl (by kernel_rfl) (by kernel_rfl) (by kernel_rfl) (fun _ _ _ h => h) rfl ?_ hHeld ?_
        rotate_left
        · (intro wq hSq; skip; go_simp <;> first | with_reducible rfl | rfl)
        simp only [Act.put, List.setIfInBounds_toArray, List.set_cons_zero, List.set_cons_succ]
        refine take_on (i := 3) (v := ?_) rfl rfl (by kernel_rfl) (by kernel_rfl) (by kernel_rfl) (fun _ _ _ h => h) rfl ?_ hHeld ?_
        rotate_left
        · (intro wq hSq; skip; go_simp <;> first | with_reducible rfl | rfl)
        simp only [Act.put, List.setIfInBounds_toArray, List.set_cons_zero, List.set_cons_succ]
        refine take_off (i := 4) rfl rfl (by kernel_rfl) (by kernel_rfl) (by kernel_rfl) (fun _ _ _ h => h) rfl hHeld ?_
        simp only [Act.put, List.setIfInBounds_toArray, List.set_cons_zero, List.set_cons_succ]
        refine take_off (i := 5) rfl rfl (by kernel_rfl) (by kernel_rfl) (by kernel_rfl) (fun _ _ _ h => h) rfl hHeld ?_
        simp only [Act.put, List.setIfInBounds_toArray, List.set_cons_zero, List.set_cons_succ]
        refine take_off (i := 6) rfl rfl (by kernel_rfl) (by kernel_rfl) (by kernel_rfl) (fun _ _ _ h => h) rfl hHeld ?_
        simp only [Act.put, List.setIfInBounds_toArray, List.set_cons_zero, List.set_cons_succ]
        refine take_off (i := 7) rfl rfl (by kernel_rfl) (by kernel_rfl) (by kernel_rfl) (fun _ _ _ h => h) rfl hHeld ?_
        simp only [Act.put, List.setIfInBounds_toArray, List.set_cons_zero, List.set_cons_succ]
        refine take_off (i := 8) rfl rfl (by kernel_rfl) (by kernel_rfl) (by kernel_rfl) (fun _ _ _ h => h) rfl hHeld ?_
        simp only [Act.put, List.setIfInBounds_toArray, List.set_cons_zero, List.set_cons_succ]
        refine take_on (i := 9) (v := ?_) rfl rfl (by kernel_rfl) (by kernel_rfl) (by kernel_rfl) (fun _ _ _ h => h) rfl ?_ hHeld ?_
        rotate_left
        · (intro wq hSq; skip; go_simp <;> first | with_reducible rfl | rfl)
        simp only [Act.put, List.setIfInBounds_toArray, List.set_cons_zero, List.set_cons_succ]
        refine take_on (i := 10) (v := ?_) rfl rfl (by kernel_rfl) (by kernel_rfl) (by kernel_rfl) (fun _ _ _ h => h) rfl ?_ hHeld ?_
        rotate_left
        · (intro wq hSq; skip; go_simp <;> first | with_reducible rfl | rfl)
        simp only [Act.put, List.setIfInBounds_toArray, List.set_cons_zero, List.set_cons_succ]
        refine wpAnyH_done (by kernel_rfl) ?_ _
        go_wp2_with fail
        go_ret
        exact ⟨rfl, hHeld.1⟩
      | ok x =>
        obtain ⟨v, t⟩ := x
        have hx : rdOf 0 (takeFixed 4) (zs, 0) = (v, (t, 0)) := by unfold rdOf; rw [if_neg (by simp), hT]
        rw [hx] at he ht3
        subst he
        have hvl : v < 4294967296 := takeFixed_lt hc.all hT
        have h4 : 4 ≤ zs.length ∧ v = beVal (zs.take 4) := by
          unfold takeFixed at hT
          split at hT
          · cases hT
          · cases hT; exact ⟨by omega, rfl⟩
        have hsl : RowB w a (beP 4 v 4) := by
          have h := (RowLt.of_row hc.row).take 4
          have e3 := be_form (hc.all.take 4)
          have e4 : (zs.take 4).length = 4 := by simp; omega
          rw [e4, ← h4.2] at e3
          rw [e3]
          exact h.row
        have hz4 : 4 ≤ zs.length := h4.1
        clear hx hT h4
        have hlb : (beP 4 v 4).length = 4 := beP_len 4 v 4
        have hff := hc.fits
        have hcm := hc.capm
        unfold maxLen at hcm
        have hi4 : (4 : Int) ≤ (cap : Int) := by omega
        have HSL := hide_it hsl
        clear hsl
        go_wp2_with fail
        refine wp_region_held_drew (S := (fun w' => Below w.heap.size w w' ∧ Rst w' (some ⟨p3, 0, none⟩) (t, 0))) (by kernel_rfl) ?_ (fun hHeld => ?_)
        · exact ⟨hbv3.drew, ht3.below (Below.refl _ _).drew⟩
        refine take_on (i := 0) (v := ?_) rfl rfl (by kernel_rfl) (by kernel_rfl) (by kernel_rfl) (fun _ _ _ h => h) rfl ?_ hHeld ?_
        rotate_left
        · (intro wq hSq; skip; go_simp <;> first | with_reducible rfl | rfl)
        simp only [Act.put, List.setIfInBounds_toArray, List.set_cons_zero, List.set_cons_succ]
        refine take_one (i := 1) rfl (by kernel_rfl) (fun K hK => ?_)
        go_simp
        refine (fault_st _ _ _ hHeld.2).mono ?_; rintro e w1 ⟨rfl, hq⟩; have hq2 := hq.symm; subst hq2; clear hq
        try go_wp2_with fail
        refine hK.out _ _ ?_ (fun hHeld => ?_)
        · exact hHeld
        clear hK K
        try simp only [Act.put, List.setIfInBounds_toArray, List.set_cons_zero, List.set_cons_succ]
        refine take_on (i := 2) (v := ?_) rfl rfl (by kernel_rfl) (by kernel_rfl) (by kernel_rfl) (fun _ _ _ h => h) rfl ?_ hHeld ?_
        rotate_left
        · (intro wq hSq; skip; go_simp <;> first | with_reducible rfl | rfl)
        simp only [Act.put, List.setIfInBounds_toArray, List.set_cons_zero, List.set_cons_succ]
        refine take_on (i := 3) (v := ?_) rfl rfl (by kernel_rfl) (by kernel_rfl) (by kernel_rfl) (fun _ _ _ h => h) rfl ?_ hHeld ?_
        rotate_left
        · (intro wq hSq; skip; go_simp <;> first | with_reducible rfl | rfl)
        simp only [Act.put, List.setIfInBounds_toArray, List.set_cons_zero, List.set_cons_succ]
        refine take_on (i := 4) (v := ?_) rfl rfl (by kernel_rfl) (by kernel_rfl) (by kernel_rfl) (fun _ _ _ h => h) rfl ?_ hHeld ?_
        rotate_left
        · (intro wq hSq; skip; go_simp <;> first | with_reducible rfl | rfl)
        simp only [Act.put, List.setIfInBounds_toArray, List.set_cons_zero, List.set_cons_succ]
        refine take_on (i := 6) (v := ?_) rfl rfl (by kernel_rfl) (by kernel_rfl) (by kernel_rfl) (fun _ _ _ h => h) rfl ?_ hHeld ?_
        rotate_left
        · (intro wq hSq; skip; go_simp <;> first | with_reducible rfl | rfl)
        simp only [Act.put, List.setIfInBounds_toArray, List.set_cons_zero, List.set_cons_succ]
        refine take_on (i := 7) (v := ?_) rfl rfl (by kernel_rfl) (by kernel_rfl) (by kernel_rfl) (fun _ _ _ h => h) rfl ?_ hHeld ?_
        rotate_left
        · (intro wq hSq; skip; go_simp <;> first | with_reducible rfl | rfl)
        simp only [Act.put, List.setIfInBounds_toArray, List.set_cons_zero, List.set_cons_succ]
        refine take_one (i := 5) rfl (by kernel_rfl) (fun K hK => ?_)
        go_simp
        refine (put32 none 0 v [] _ hvl (.inl rfl) (by simp) (fun _ => ⟨rfl, rfl⟩)).mono ?_; rintro e z3 ⟨⟨r, rfl, ho⟩, hbz⟩; have hbz3 := hHeld.1.trans (hbz.mono hHeld.1.size); have hst3 := hHeld.2.below hbz; obtain ⟨ra, rc, hv, hrr, _, _, _⟩ := ho.row; subst hv; rw [List.nil_append] at hrr; rw [List.nil_append, hlb]; have heq := equal_any ra a rc cap (beP 4 v 4) (beP 4 v 4) _ hrr (HSL.out.below hbz3) (by rw [hlb]; simp [maxLen]) (by rw [hlb]; simp [maxLen]); have hd : decide (beP 4 v 4 = beP 4 v 4) = true := decide_eq_true rfl; rw [hd, hlb] at heq; clear hd ho hrr hbz
        try go_wp2_with fail
        refine hK.out _ _ ?_ (fun hHeld => ?_)
        · exact ⟨hbz3, hst3⟩
        clear hK K
        try simp only [Act.put, List.setIfInBounds_toArray, List.set_cons_zero, List.set_cons_succ]
        refine take_one (i := 8) rfl (by kernel_rfl) (fun K hK => ?_)
        go_simp
        refine heq.mono ?_; rintro e y3 ⟨rfl, q3, rfl⟩
        try go_wp2_with fail
        refine hK.out _ _ ?_ (fun hHeld => ?_)
        · exact ⟨below_drewN hHeld.1 q3, hHeld.2.below (below_drewN (Below.refl _ _) q3)⟩
        clear hK K
        try simp only [Act.put, List.setIfInBounds_toArray, List.set_cons_zero, List.set_cons_succ]
        refine take_on (i := 9) (v := ?_) rfl rfl (by kernel_rfl) (by kernel_rfl) (by kernel_rfl) (fun _ _ _ h => h) rfl ?_ hHeld ?_
        rotate_left
        · (intro wq hSq; skip; go_simp <;> first | with_reducible rfl | rfl)
        simp only [Act.put, List.setIfInBounds_toArray, List.set_cons_zero, List.set_cons_succ]
        refine take_on (i := 10) (v := ?_) rfl rfl (by kernel_rfl) (by kernel_rfl) (by kernel_rfl) (fun _ _ _ h => h) rfl ?_ hHeld ?_
        rotate_left
        · (intro wq hSq; skip; go_simp <;> first | with_reducible rfl | rfl)
        simp only [Act.put, List.setIfInBounds_toArray, List.set_cons_zero, List.set_cons_succ]
        refine wpAnyH_done (by kernel_rfl) ?_ _
        go_wp2_with fail
        go_ret
        exact ⟨rfl, hHeld.1⟩

    | ok x =>
      obtain ⟨p, t⟩ := x
      have hx : rdOf [] (takeCounted (zs.length : Int)) (zs, 0) = (p, (t, 0)) := by unfold rdOf; rw [if_neg (by simp), hT]
      rw [hx] at ht2 hob
      have hfm := counted_form hc.all hT
      have hpl := (takeCounted_len hT).1
      have hlz : zs.length = (shortL (2 * p.length) ++ p).length + t.length := by rw [← List.length_append, ← hfm]
      have hm : (zs.length : Int) - (t.length : Int) = (((shortL (2 * p.length) ++ p).length : Nat) : Int) := by omega
      have hsl : RowB w a (shortL (2 * p.length) ++ p) := by
        have h := (RowLt.of_row hc.row).take (shortL (2 * p.length) ++ p).length
        have e2 : zs.take (shortL (2 * p.length) ++ p).length = shortL (2 * p.length) ++ p := by
          conv => lhs; rw [hfm]
          exact List.take_left
        rw [e2] at h
        exact h.row
      obtain ⟨L, hL⟩ : ∃ L, L = shortL (2 * p.length) ++ p := ⟨_, rfl⟩
      have hLl : L.length ≤ zs.length := by rw [hL]; omega
      rw [← hL] at hm hsl
      have HL := hide_it hL
      have HM := hide_it hm
      obtain ⟨ba, bc, hvb, hrb, _, _, hnb⟩ := hob.row
      subst hvb
      clear hx hT hfm hlz hL hm hob
      go_wp2_with fail
      refine (fault_st _ _ _ ht2).mono ?_
      rintro e w' ⟨rfl, hq⟩
      have hq2 := hq.symm
      subst hq2
      clear hq
      go_wp2_with fail
      have hszz := hc.size
      have hpi := putBytes_any none ba 0 bc [] p v2 (.inl rfl) hrb (by simp; omega) (fun _ => ⟨rfl, rfl⟩) hnb
      rw [List.nil_append, ← HL.out] at hpi
      refine hpi.mono ?_
      rintro e z2 ⟨⟨r, rfl, ho⟩, hbz⟩
      have hbz2 := hbv2.trans (hbz.mono hbv2.size)
      have hlz2 := ht2.below hbz
      obtain ⟨ra, rc, hv, hrr, _, _, _⟩ := ho.row
      subst hv
      clear hpi ho hbz hbv2 ht2 hrb hnb
      go_wp2_with fail
      refine (left_st _ _ _ hlz2).mono ?_
      rintro e w' ⟨rfl, hq⟩
      have hq2 := hq.symm
      subst hq2
      clear hq
      clear hlz2
      have hff := hc.fits
      have hcm := hc.capm
      unfold maxLen at hcm
      have hmm := HM.out
      have hll : (L.length : Int) ≤ (zs.length : Int) := by omega
      go_wp2_with fail
      have heq := equal_any ra a rc cap L L _ hrr (hsl.below hbz2) (by unfold maxLen; omega) (by unfold maxLen; omega)
      have hd : decide (L = L) = true := decide_eq_true rfl
      rw [hd] at heq
      clear hd
      refine heq.mono ?_
      rintro e y2 ⟨rfl, q2, rfl⟩
      have hby2 := below_drewN hbz2 q2
      clear heq hrr hsl hbz2 HL HM hmm hll hLl hszz hff hcm hpl
      go_wp2_with fail
      refine (open_any a cap zs _ (hc.row.below hby2) hc.all (by have := hc.size; omega) hc.none).mono ?_
      rintro e w3 ⟨p3, rfl, hp3, hs3, hb3⟩
      have hbo3 := hby2.trans (hb3.mono hby2.size)
      have hpw3 : w.heap.size ≤ p3 := Nat.le_trans hby2.size hp3
      clear hb3 hp3
      go_wp2_with fail
      refine (take32 _ _ _ hs3).mono ?_
      rintro e v3 ⟨he, ht3, hg3⟩
      have hbv3 := hbo3.grown hg3 hbo3.size (fun j e => by cases e; exact hpw3)
      clear hs3 hg3 hbo3
      cases hT : takeFixed 4 zs with
      | error c =>
        have hx : rdOf 0 (takeFixed 4) (zs, 0) = (0, (zs, c)) := by unfold rdOf; rw [if_neg (by simp), hT]
        rw [hx] at he ht3
        subst he
        obtain rfl : c = 20 := by
          unfold takeFixed at hT
          split at hT
          · cases hT; rfl
          · cases hT
        clear hx hT
        go_wp2_with fail
        refine wp_region_held_drew (S := (fun w' => Below w.heap.size w w' ∧ Rst w' (some ⟨p3, 0, none⟩) (zs, 20))) (by kernel_rfl) ?_ (fun hHeld => ?_)
        · exact ⟨hbv3.drew, ht3.below (Below.refl _ _).drew⟩
        refine take_on (i := 0) (v := ?_) rfl rfl (by kernel_rfl) (by kernel_rfl) (by kernel_rfl) (fun _ _ _ h => h) rfl ?_ hHeld ?_
        rotate_left
        · (intro wq hSq; skip; go_simp <;> first | with_reducible rfl | rfl)
        simp only [Act.put, List.setIfInBounds_toArray, List.set_cons_zero, List.set_cons_succ]
        refine take_one (i := 1) rfl (by kernel_rfl) (fun K hK => ?_)
        go_simp
        refine (fault_st _ _ _ hHeld.2).mono ?_; rintro e w1 ⟨rfl, hq⟩; have hq2 := hq.symm; subst hq2; clear hq
        try go_wp2_with fail
        refine hK.out _ _ ?_ (fun hHeld => ?_)
        · exact hHeld
        clear hK K
        try simp only [Act.put, List.setIfInBounds_toArray, List.set_cons_zero, List.set_cons_succ]
        refine take_on (i := 2) (v := ?_) rfl rfl (by kernel_rfl) (by kernel_rfl) (by kernel_rfl) (fun _ _ _ h => h) rfl ?_ hHeld ?_
        rotate_left
        · (intro wq hSq; skip; go_simp <;> first | with_reducible rfl | rfl)
        simp only [Act.put, List.setIfInBounds_toArray, List.set_cons_zero, List.set_cons_succ]
        refine take_on (i := 3) (v := ?_) rfl rfl (by kernel_rfl) (by kernel_rfl) (by kernel_rfl) (fun _ _ _ h => h) rfl ?_ hHeld ?_
        rotate_left
        · (intro wq hSq; skip; go_simp <;> first | with_reducible rfl | rfl)
        simp only [Act.put, List.setIfInBounds_toArray, List.set_cons_zero, List.set_cons_succ]
        refine take_off (i := 4) rfl rfl (by kernel_rfl) (by kernel_rfl) (by kernel_rfl) (fun _ _ _ h => h) rfl hHeld ?_
        simp only [Act.put, List.setIfInBounds_toArray, List.set_cons_zero, List.set_cons_succ]
        refine take_off (i := 5) rfl rfl (by kernel_rfl) (by kernel_rfl) (by kernel_rfl) (fun _ _ _ h => h) rfl hHeld ?_
        simp only [Act.put, List.setIfInBounds_toArray, List.set_cons_zero, List.set_cons_succ]
        refine take_off (i := 6) rfl rfl (by kernel_rfl) (by kernel_rfl) (by kernel_rfl) (fun _ _ _ h => h) rfl hHeld ?_
        simp only [Act.put, List.setIfInBounds_toArray, List.set_cons_zero, List.set_cons_succ]
        refine take_off (i := 7) rfl rfl (by kernel_rfl) (by kernel_rfl) (by kernel_rfl) (fun _ _ _ h => h) rfl hHeld ?_
        simp only [Act.put, List.setIfInBounds_toArray, List.set_cons_zero, List.set_cons_succ]
        refine take_off (i := 8) rfl rfl (by kernel_rfl) (by kernel_rfl) (by kernel_rfl) (fun _ _ _ h => h) rfl hHeld ?_
        simp only [Act.put, List.setIfInBounds_toArray, List.set_cons_zero, List.set_cons_succ]
        refine take_on (i := 9) (v := ?_) rfl rfl (by kernel_rfl) (by kernel_rfl) (by kernel_rfl) (fun _ _ _ h => h) rfl ?_ hHeld ?_
        rotate_left
        · (intro wq hSq; skip; go_simp <;> first | with_reducible rfl | rfl)
        simp only [Act.put, List.setIfInBounds_toArray, List.set_cons_zero, List.set_cons_succ]
        refine take_on (i := 10) (v := ?_) rfl rfl (by kernel_rfl) (by kernel_rfl) (by kernel_rfl) (fun _ _ _ h => h) rfl ?_ hHeld ?_
        rotate_left
        · (intro wq hSq; skip; go_simp <;> first | with_reducible rfl | rfl)
        simp only [Act.put, List.setIfInBounds_toArray, List.set_cons_zero, List.set_cons_succ]
        refine wpAnyH_done (by kernel_rfl) ?_ _
        go_wp2_with fail
        go_ret
        exact ⟨rfl, hHeld.1⟩
      | ok x =>
        obtain ⟨v, t⟩ := x
        have hx : rdOf 0 (takeFixed 4) (zs, 0) = (v, (t, 0)) := by unfold rdOf; rw [if_neg (by simp), hT]
        rw [hx] at he ht3
        subst he
        have hvl : v < 4294967296 := takeFixed_lt hc.all hT
        have h4 : 4 ≤ zs.length ∧ v = beVal (zs.take 4) := by
          unfold takeFixed at hT
          split at hT
          · cases hT
          · cases hT; exact ⟨by omega, rfl⟩
        have hsl : RowB w a (beP 4 v 4) := by
          have h := (RowLt.of_row hc.row).take 4
          have e3 := be_form (hc.all.take 4)
          have e4 : (zs.take 4).length = 4 := by simp; omega
          rw [e4, ← h4.2] at e3
          rw [e3]
          exact h.row
        have hz4 : 4 ≤ zs.length := h4.1
        clear hx hT h4
        have hlb : (beP 4 v 4).length = 4 := beP_len 4 v 4
        have hff := hc.fits
        have hcm := hc.capm
        unfold maxLen at hcm
        have hi4 : (4 : Int) ≤ (cap : Int) := by omega
        have HSL := hide_it hsl
        clear hsl
        go_wp2_with fail
        refine wp_region_held_drew (S := (fun w' => Below w.heap.size w w' ∧ Rst w' (some ⟨p3, 0, none⟩) (t, 0))) (by kernel_rfl) ?_ (fun hHeld => ?_)
        · exact ⟨hbv3.drew, ht3.below (Below.refl _ _).drew⟩
        refine take_on (i := 0) (v := ?_) rfl rfl (by kernel_rfl) (by kernel_rfl) (by kernel_rfl) (fun _ _ _ h => h) rfl ?_ hHeld ?_
        rotate_left
        · (intro wq hSq; skip; go_simp <;> first | with_reducible rfl | rfl)
        simp only [Act.put, List.setIfInBounds_toArray, List.set_cons_zero, List.set_cons_succ]
        refine take_one (i := 1) rfl (by kernel_rfl) (fun K hK => ?_)
        go_simp
        refine (fault_st _ _ _ hHeld.2).mono ?_; rintro e w1 ⟨rfl, hq⟩; have hq2 := hq.symm; subst hq2; clear hq
        try go_wp2_with fail
        refine hK.out _ _ ?_ (fun hHeld => ?_)
        · exact hHeld
        clear hK K
        try simp only [Act.put, List.setIfInBounds_toArray, List.set_cons_zero, List.set_cons_succ]
        refine take_on (i := 2) (v := ?_) rfl rfl (by kernel_rfl) (by kernel_rfl) (by kernel_rfl) (fun _ _ _ h => h) rfl ?_ hHeld ?_
        rotate_left
        · (intro wq hSq; skip; go_simp <;> first | with_reducible rfl | rfl)
        simp only [Act.put, List.setIfInBounds_toArray, List.set_cons_zero, List.set_cons_succ]
        refine take_on (i := 3) (v := ?_) rfl rfl (by kernel_rfl) (by kernel_rfl) (by kernel_rfl) (fun _ _ _ h => h) rfl ?_ hHeld ?_
        rotate_left
        · (intro wq hSq; skip; go_simp <;> first | with_reducible rfl | rfl)
        simp only [Act.put, List.setIfInBounds_toArray, List.set_cons_zero, List.set_cons_succ]
        refine take_on (i := 4) (v := ?_) rfl rfl (by kernel_rfl) (by kernel_rfl) (by kernel_rfl) (fun _ _ _ h => h) rfl ?_ hHeld ?_
        rotate_left
        · (intro wq hSq; skip; go_simp <;> first | with_reducible rfl | rfl)
        simp only [Act.put, List.setIfInBounds_toArray, List.set_cons_zero, List.set_cons_succ]
        refine take_on (i := 6) (v := ?_) rfl rfl (by kernel_rfl) (by kernel_rfl) (by kernel_rfl) (fun _ _ _ h => h) rfl ?_ hHeld ?_
        rotate_left
        · (intro wq hSq; skip; go_simp <;> first | with_reducible rfl | rfl)
        simp only [Act.put, List.setIfInBounds_toArray, List.set_cons_zero, List.set_cons_succ]
        refine take_on (i := 7) (v := ?_) rfl rfl (by kernel_rfl) (by kernel_rfl) (by kernel_rfl) (fun _ _ _ h => h) rfl ?_ hHeld ?_
        rotate_left
        · (intro wq hSq; skip; go_simp <;> first | with_reducible rfl | rfl)
        simp only [Act.put, List.setIfInBounds_toArray, List.set_cons_zero, List.set_cons_succ]
        refine take_one (i := 5) rfl (by kernel_rfl) (fun K hK => ?_)
        go_simp
        refine (put32 none 0 v [] _ hvl (.inl rfl) (by simp) (fun _ => ⟨rfl, rfl⟩)).mono ?_; rintro e z3 ⟨⟨r, rfl, ho⟩, hbz⟩; have hbz3 := hHeld.1.trans (hbz.mono hHeld.1.size); have hst3 := hHeld.2.below hbz; obtain ⟨ra, rc, hv, hrr, _, _, _⟩ := ho.row; subst hv; rw [List.nil_append] at hrr; rw [List.nil_append, hlb]; have heq := equal_any ra a rc cap (beP 4 v 4) (beP 4 v 4) _ hrr (HSL.out.below hbz3) (by rw [hlb]; simp [maxLen]) (by rw [hlb]; simp [maxLen]); have hd : decide (beP 4 v 4 = beP 4 v 4) = true := decide_eq_true rfl; rw [hd, hlb] at heq; clear hd ho hrr hbz
        try go_wp2_with fail
        refine hK.out _ _ ?_ (fun hHeld => ?_)
        · exact ⟨hbz3, hst3⟩
        clear hK K
        try simp only [Act.put, List.setIfInBounds_toArray, List.set_cons_zero, List.set_cons_succ]
        refine take_one (i := 8) rfl (by kernel_rfl) (fun K hK => ?_)
        go_simp
        refine heq.mono ?_; rintro e y3 ⟨rfl, q3, rfl⟩
        try go_wp2_with fail
        refine hK.out _ _ ?_ (fun hHeld => ?_)
        · exact ⟨below_drewN hHeld.1 q3, hHeld.2.below (below_drewN (Below.refl _ _) q3)⟩
        clear hK K
        try simp only [Act.put, List.setIfInBounds_toArray, List.set_cons_zero, List.set_cons_succ]
        refine take_on (i := 9) (v := ?_) rfl rfl (by kernel_rfl) (by kernel_rfl) (by kernel_rfl) (fun _ _ _ h => h) rfl ?_ hHeld ?_
        rotate_left
        · (intro wq hSq; skip; go_simp <;> first | with_reducible rfl | rfl)
        simp only [Act.put, List.setIfInBounds_toArray, List.set_cons_zero, List.set_cons_succ]
        refine take_on (i := 10) (v := ?_) rfl rfl (by kernel_rfl) (by kernel_rfl) (by kernel_rfl) (fun _ _ _ h => h) rfl ?_ hHeld ?_
        rotate_left
        · (intro wq hSq; skip; go_simp <;> first | with_reducible rfl | rfl)
        simp only [Act.put, List.setIfInBounds_toArray, List.set_cons_zero, List.set_cons_succ]
        refine wpAnyH_done (by kernel_rfl) ?_ _
        go_wp2_with fail
        go_ret
        exact ⟨rfl, hHeld.1⟩



end Go.Proofs.Ytfhinodieghklab.codecForm
