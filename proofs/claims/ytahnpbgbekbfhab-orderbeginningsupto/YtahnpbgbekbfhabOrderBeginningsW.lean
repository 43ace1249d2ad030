/- Beginnings of lists are beginnings of texts, and the other way round: the law's walk. -/
import Derived.Test.YtahnpbgbekbfhabKt1
namespace Go.Proofs.Ytahnpbgbekbfhab.orderBeginnings
open Go.RowKit

theorem bgn_iff (m l : List Nat) : bgn m l = true ↔ ∃ s, m = l ++ s := by
  unfold bgn
  rw [decide_eq_true_eq]
  constructor
  · intro h
    refine ⟨m.drop l.length, ?_⟩
    have := List.take_append_drop l.length m
    rw [h] at this
    exact this.symm
  · rintro ⟨s, rfl⟩
    exact List.take_left' rfl
theorem enc_take (xs : List It) (n : Nat) : bgn (encAll xs) (encAll (xs.take n)) = true := by
  rw [bgn_iff]
  refine ⟨encAll (xs.drop n), ?_⟩
  have : encAll (xs.take n ++ xs.drop n) = encAll (xs.take n) ++ encAll (xs.drop n) := by unfold encAll; rw [List.flatMap_append]
  rw [List.take_append_drop] at this
  exact this

set_option maxRecDepth 100000 in
set_option maxHeartbeats 2000000 in
theorem walk (a : Option Addr) (ca : Nat) (xs : List It) (b : Option Addr) (cb_ : Nat) (ys : List It) (w : World) (hra : RowR w a xs) (hla : xs.length ≤ 1048576) (hoa : ∀ x ∈ xs, ItOk x ∧ x.t.size ≤ 1048576) (hca : xs.length ≤ ca) (hrb : RowR w b ys) (hlb : ys.length ≤ 1048576) (hob : ∀ x ∈ ys, ItOk x ∧ x.t.size ≤ 1048576) (_ : ys.length ≤ cb_) :
    Calls Try.prog 6 #[.slice a xs.length ca, .slice b ys.length cb_] w fun e w' => e = .returned (.bool true) ∧ Below w.heap.size w w' := by
  have hokx : AllOk xs := fun x hx => ⟨(hoa x hx).1, by have := (hoa x hx).2; omega⟩
  have hoky : AllOk ys := fun x hx => ⟨(hob x hx).1, by have := (hob x hx).2; omega⟩
  have HX := hide_it hra
  have HY := hide_it hrb
  have HOX := hide_it hokx
  have HOY := hide_it hoky
  clear hra hrb hoa hob hokx hoky
  go_enter Try.func6, Try.ntmps6
  go_wp2_with fail
  refine (awake_any _).mono ?_
  rintro e w1 ⟨rfl, hb1⟩
  go_wp2_with fail
  refine (items_any a ca xs w1 (HX.out.below hb1) (by omega)).mono ?_
  rintro e w2 ⟨⟨v2, rfl, hown2⟩, hc2⟩
  have hb2 := hb1.trans (hc2.mono hb1.size)
  clear hb1 hc2
  go_wp2_with fail
  refine (enc_own hown2 HOX.out (by omega)).mono ?_
  rintro e w3 ⟨rfl, hc3⟩
  have hb3 := hb2.trans (hc3.mono hb2.size)
  clear hb2 hc3 hown2
  go_wp2_with fail
  refine (items_any b cb_ ys w3 (HY.out.below hb3) (by omega)).mono ?_
  rintro e w4 ⟨⟨v4, rfl, hown4⟩, hc4⟩
  have hb4 := hb3.trans (hc4.mono hb3.size)
  clear hb3 hc4
  go_wp2_with fail
  refine (enc_own hown4 HOY.out (by omega)).mono ?_
  rintro e w5 ⟨rfl, hc5⟩
  have hb5 := hb4.trans (hc5.mono hb4.size)
  clear hb4 hc5 hown4
  rcases enc_cases xs with ⟨c, hc, hex, _⟩ | ⟨hex, hl64, hmx⟩
  · rw [hex]
    have hcb : (c == 0) = false := by simpa using hc
    go_wp2_with fail
    go_ret
    exact ⟨rfl, hb5⟩
  · rw [hex]
    rcases enc_cases ys with ⟨c, hc, hey, _⟩ | ⟨hey, hl64y, hmy⟩
    · rw [hey]
      have hcb : (c == 0) = false := by simpa using hc
      generalize strOf (encAll xs) = s1 at *
      go_wp2_with fail
      go_ret
      exact ⟨rfl, hb5⟩
    · rw [hey]
      have hsz1 : (strOf (encAll xs)).size ≤ 562949953421312 := by
        rw [strOf_size]
        have := encAll_len HOX.out
        omega
      have hsz2 : (strOf (encAll ys)).size ≤ 562949953421312 := by
        rw [strOf_size]
        have := encAll_len HOY.out
        omega
      have hgP : ∀ k, k ≤ xs.length → ∀ w, Calls Try.prog 20 #[.string (strOf (encAll xs)), .string (strOf (encAll (xs.take k)))] w fun e w' => e = .returned (.bool true) ∧ w' = w := fun k hk w => by
        have hs3 : (strOf (encAll (xs.take k))).size ≤ 562949953421312 := by
          rw [strOf_size]
          have h1 := encAll_len (xs := xs.take k) (fun x hx => HOX.out x (List.mem_of_mem_take hx))
          have h2 : (xs.take k).length ≤ 64 := by simp; omega
          omega
        have := begins_any (strOf (encAll xs)) (strOf (encAll (xs.take k))) w hsz1 hs3
        rw [strNat_strOf (encAll_all8 hmx), strNat_strOf (encAll_all8 (fun x hx => hmx x (List.mem_of_mem_take hx))), enc_take] at this
        exact this
      have hgE : ∀ w, Calls Try.prog 20 #[.string (strOf (encAll xs)), .string (strOf (encAll ys))] w fun e w' => e = .returned (.bool (bgn (encAll xs) (encAll ys))) ∧ w' = w := fun w => by
        have := begins_any (strOf (encAll xs)) (strOf (encAll ys)) w hsz1 hsz2
        rw [strNat_strOf (encAll_all8 hmx), strNat_strOf (encAll_all8 hmy)] at this
        exact this
      have hit := begins_iff xs ys (fun x hx => ⟨(HOX.out x hx).1, hmx x hx⟩) (fun x hx => ⟨(HOY.out x hx).1, hmy x hx⟩)
      rw [← bgn_iff] at hit
      have HIT := hide_it hit
      have hpart : ∀ k, encRes (xs.take k) = (encAll (xs.take k), 0) := fun k => by
        unfold encRes
        rw [if_neg (by simp; omega), List.all_eq_true.2 (fun x hx => hmx x (List.mem_of_mem_take hx))]
        rfl
      have HPART := hide_it hpart
      have HGP := hide_it hgP
      clear hex hey hit hpart hgP hsz1 hsz2
      generalize strOf (encAll xs) = s1 at *
      generalize strOf (encAll ys) = s2 at *
      generalize bgn (encAll xs) (encAll ys) = fin at *
      go_wp2_with fail
      go_loopw [9] (fun i wr => ∃ k : Nat, k ≤ xs.length + 1 ∧ i = .int .i64 (k : Int) ∧ Below w.heap.size w wr) (fun i _ => xs.length + 1 - (intOf i).toNat)
      case atStart => exact ⟨0, by omega, rfl, hb5⟩
      case round =>
        obtain ⟨k, hk, rfl, hbl⟩ := hrel
        by_cases hlt : k ≤ xs.length
        · have hd1 : decide ((k : Int) ≤ (xs.length : Int)) = true := by simp; omega
          have htl : (xs.take k).length = k := by simp; omega
          have hrow := (HX.out.below hbl).take k
          have hia := items_any a ca (xs.take k) wr hrow (by omega)
          rw [htl] at hia
          have hka : k ≤ ca := by omega
          clear hrow
          go_wp2_with fail
          refine hia.mono ?_
          rintro e w6 ⟨⟨v6, rfl, hown6⟩, hc6⟩
          have hb6 := hbl.trans (hc6.mono hbl.size)
          have hen := enc_own hown6 (fun x hx => HOX.out x (List.mem_of_mem_take hx)) (by omega)
          rw [HPART.out k] at hen
          clear hia hc6 hown6
          have hgp := HGP.out k hlt
          go_wp2_with fail
          refine hen.mono ?_
          rintro e w7 ⟨rfl, hc7⟩
          have hb7 := hb6.trans (hc7.mono hb6.size)
          clear hen hb6 hc7
          simp only
          generalize strOf (encAll (xs.take k)) = sp at *
          go_wp2_with fail
          refine (hgp _).mono ?_
          rintro e w8 ⟨rfl, hq⟩
          have hq2 := hq.symm
          subst hq2
          clear hq
          go_wp2_with fail
          go_roundw
          case rel => exact ⟨k + 1, by omega, by go_num, hb7⟩
          case measure => simp [intOf]; omega
        · have hd1 : decide ((k : Int) ≤ (xs.length : Int)) = false := by simp; omega
          clear hb5
          go_wp2_with fail
          have HIT2 := HIT
          clear hd1 hk hlt
          go_loopw [12, 13] (fun f i wr => ∃ (k : Nat) (fb : Bool), k ≤ xs.length ∧ k ≤ ys.length ∧ i = .int .i64 (k : Int) ∧ f = .bool fb ∧ Below w.heap.size w wr ∧ Hid (fb = true ↔ ys.length ≤ xs.length ∧ ∀ j (h1 : j < xs.length) (h2 : j < ys.length), j < k → cmpIt xs[j] ys[j] = 0)) (fun _ i _ => xs.length - (intOf i).toNat)
          case atStart => exact ⟨0, decide (ys.length ≤ xs.length), by omega, by omega, rfl, by simp, hbl, by unfold Hid; simp⟩
          case round =>
            obtain ⟨m, fb, hmx1, hmy1, rfl, rfl, hbl2, hfb⟩ := hrel
            have hbs2 := hbl2.size
            by_cases hlx : m < xs.length
            · have hdx : decide ((m : Int) < (xs.length : Int)) = true := by simp; omega
              by_cases hly : m < ys.length
              · have hdy : decide ((m : Int) < (ys.length : Int)) = true := by simp; omega
                obtain ⟨b1, o1, rfl, l1, at1⟩ := HX.out.here hlx
                obtain ⟨b2, o2, rfl, l2, at2⟩ := HY.out.here hly
                have at1' := at1.below hbl2 l1
                have at2' := at2.below hbl2 l2
                have okx := (HOX.out xs[m] (List.getElem_mem hlx)).1
                have oky := (HOY.out ys[m] (List.getElem_mem hly)).1
                obtain ⟨c, hce⟩ : ∃ c, c = cmpIt xs[m] ys[m] := ⟨_, rfl⟩
                have hcp := fun w => compare_any xs[m] ys[m] w okx oky
                rw [← hce] at hcp
                have HCE := hide_it hce
                have ia := fun w => lawItem_any xs[m] w
                have ib := fun w => lawItem_any ys[m] w
                have lw1 : b1 < wr.heap.size := Nat.lt_of_lt_of_le l1 hbs2
                have lw2 : b2 < wr.heap.size := Nat.lt_of_lt_of_le l2 hbs2
                clear hce okx oky at1 at2
                generalize hxm : xs[m] = x at *
                generalize hym : ys[m] = y at *
                have HXM := hide_it hxm
                have HYM := hide_it hym
                clear hxm hym
                go_wp2_with fail
                refine wp_region_held_drew (S := (fun w' => Below wr.heap.size wr w')) (by kernel_rfl) ?_ (fun hHeld => ?_)
                · exact (Below.refl _ _).drew
                refine take_on (i := 0) (v := ?_) rfl rfl (by kernel_rfl) (by kernel_rfl) (by kernel_rfl) (fun _ _ _ h => h) rfl ?_ hHeld ?_
                rotate_left
                · (intro wq hSq; obtain ⟨q0, q1, q2, q3, q4, q5, q6⟩ := at1'.below hSq lw1; obtain ⟨r0, r1, r2, r3, r4, r5, r6⟩ := at2'.below hSq lw2; go_simp <;> first | with_reducible rfl | rfl)
                simp only [Act.put, List.setIfInBounds_toArray, List.set_cons_zero, List.set_cons_succ]
                refine take_on (i := 1) (v := ?_) rfl rfl (by kernel_rfl) (by kernel_rfl) (by kernel_rfl) (fun _ _ _ h => h) rfl ?_ hHeld ?_
                rotate_left
                · (intro wq hSq; obtain ⟨q0, q1, q2, q3, q4, q5, q6⟩ := at1'.below hSq lw1; obtain ⟨r0, r1, r2, r3, r4, r5, r6⟩ := at2'.below hSq lw2; go_simp <;> first | with_reducible rfl | rfl)
                simp only [Act.put, List.setIfInBounds_toArray, List.set_cons_zero, List.set_cons_succ]
                refine take_on (i := 2) (v := ?_) rfl rfl (by kernel_rfl) (by kernel_rfl) (by kernel_rfl) (fun _ _ _ h => h) rfl ?_ hHeld ?_
                rotate_left
                · (intro wq hSq; obtain ⟨q0, q1, q2, q3, q4, q5, q6⟩ := at1'.below hSq lw1; obtain ⟨r0, r1, r2, r3, r4, r5, r6⟩ := at2'.below hSq lw2; go_simp <;> first | with_reducible rfl | rfl)
                simp only [Act.put, List.setIfInBounds_toArray, List.set_cons_zero, List.set_cons_succ]
                refine take_on (i := 3) (v := ?_) rfl rfl (by kernel_rfl) (by kernel_rfl) (by kernel_rfl) (fun _ _ _ h => h) rfl ?_ hHeld ?_
                rotate_left
                · (intro wq hSq; obtain ⟨q0, q1, q2, q3, q4, q5, q6⟩ := at1'.below hSq lw1; obtain ⟨r0, r1, r2, r3, r4, r5, r6⟩ := at2'.below hSq lw2; go_simp <;> first | with_reducible rfl | rfl)
                simp only [Act.put, List.setIfInBounds_toArray, List.set_cons_zero, List.set_cons_succ]
                refine take_on (i := 5) (v := ?_) rfl rfl (by kernel_rfl) (by kernel_rfl) (by kernel_rfl) (fun _ _ _ h => h) rfl ?_ hHeld ?_
                rotate_left
                · (intro wq hSq; obtain ⟨q0, q1, q2, q3, q4, q5, q6⟩ := at1'.below hSq lw1; obtain ⟨r0, r1, r2, r3, r4, r5, r6⟩ := at2'.below hSq lw2; go_simp <;> first | with_reducible rfl | rfl)
                simp only [Act.put, List.setIfInBounds_toArray, List.set_cons_zero, List.set_cons_succ]
                refine take_on (i := 6) (v := ?_) rfl rfl (by kernel_rfl) (by kernel_rfl) (by kernel_rfl) (fun _ _ _ h => h) rfl ?_ hHeld ?_
                rotate_left
                · (intro wq hSq; obtain ⟨q0, q1, q2, q3, q4, q5, q6⟩ := at1'.below hSq lw1; obtain ⟨r0, r1, r2, r3, r4, r5, r6⟩ := at2'.below hSq lw2; go_simp <;> first | with_reducible rfl | rfl)
                simp only [Act.put, List.setIfInBounds_toArray, List.set_cons_zero, List.set_cons_succ]
                refine take_on (i := 7) (v := ?_) rfl rfl (by kernel_rfl) (by kernel_rfl) (by kernel_rfl) (fun _ _ _ h => h) rfl ?_ hHeld ?_
                rotate_left
                · (intro wq hSq; obtain ⟨q0, q1, q2, q3, q4, q5, q6⟩ := at1'.below hSq lw1; obtain ⟨r0, r1, r2, r3, r4, r5, r6⟩ := at2'.below hSq lw2; go_simp <;> first | with_reducible rfl | rfl)
                simp only [Act.put, List.setIfInBounds_toArray, List.set_cons_zero, List.set_cons_succ]
                refine take_on (i := 8) (v := ?_) rfl rfl (by kernel_rfl) (by kernel_rfl) (by kernel_rfl) (fun _ _ _ h => h) rfl ?_ hHeld ?_
                rotate_left
                · (intro wq hSq; obtain ⟨q0, q1, q2, q3, q4, q5, q6⟩ := at1'.below hSq lw1; obtain ⟨r0, r1, r2, r3, r4, r5, r6⟩ := at2'.below hSq lw2; go_simp <;> first | with_reducible rfl | rfl)
                simp only [Act.put, List.setIfInBounds_toArray, List.set_cons_zero, List.set_cons_succ]
                refine take_one (i := 4) rfl (by kernel_rfl) (fun K hK => ?_)
                go_simp
                refine (ia _).mono ?_; rintro e y1 ⟨rfl, hb1⟩; have hSx := hHeld.trans (hb1.mono hHeld.size); clear hb1
                try go_wp2_with fail
                refine hK.out _ _ ?_ (fun hHeld => ?_)
                · exact hSx
                clear hK K
                try simp only [Act.put, List.setIfInBounds_toArray, List.set_cons_zero, List.set_cons_succ]
                refine take_one (i := 9) rfl (by kernel_rfl) (fun K hK => ?_)
                go_simp
                refine (ib _).mono ?_; rintro e y1 ⟨rfl, hb1⟩; have hSx := hHeld.trans (hb1.mono hHeld.size); clear hb1
                try go_wp2_with fail
                refine hK.out _ _ ?_ (fun hHeld => ?_)
                · exact hSx
                clear hK K
                try simp only [Act.put, List.setIfInBounds_toArray, List.set_cons_zero, List.set_cons_succ]
                refine take_one (i := 10) rfl (by kernel_rfl) (fun K hK => ?_)
                go_simp
                refine (hcp _).mono ?_; rintro e y1 ⟨rfl, hb1⟩; have hSx := hHeld.trans (hb1.mono hHeld.size); clear hb1
                try go_wp2_with fail
                refine hK.out _ _ ?_ (fun hHeld => ?_)
                · exact hSx
                clear hK K
                try simp only [Act.put, List.setIfInBounds_toArray, List.set_cons_zero, List.set_cons_succ]
                refine take_on (i := 11) (v := ?_) rfl rfl (by kernel_rfl) (by kernel_rfl) (by kernel_rfl) (fun _ _ _ h => h) rfl ?_ hHeld ?_
                rotate_left
                · (intro wq hSq; obtain ⟨q0, q1, q2, q3, q4, q5, q6⟩ := at1'.below hSq lw1; obtain ⟨r0, r1, r2, r3, r4, r5, r6⟩ := at2'.below hSq lw2; go_simp <;> first | with_reducible rfl | rfl)
                simp only [Act.put, List.setIfInBounds_toArray, List.set_cons_zero, List.set_cons_succ]
                refine wpAnyH_done (by kernel_rfl) ?_ _
                have hbl3 := hbl2.trans (hHeld.mono hbs2)
                by_cases hc0 : c = 0
                · subst hc0
                  go_wp2_with fail
                  go_roundw
                  case rel =>
                    refine ⟨m + 1, fb, by omega, by omega, by go_num, rfl, hbl3, ?_⟩
                    unfold Hid
                    rw [hfb.out]
                    constructor
                    · rintro ⟨g1, g2⟩
                      refine ⟨g1, fun j q1 q2 hj => ?_⟩
                      by_cases e : j = m
                      · subst e
                        rw [HXM.out, HYM.out]
                        exact HCE.out.symm
                      · exact g2 j q1 q2 (by omega)
                    · rintro ⟨g1, g2⟩
                      exact ⟨g1, fun j q1 q2 hj => g2 j q1 q2 (by omega)⟩
                  case measure => simp [intOf]; omega
                · have hcb : (c == 0) = false := by simpa using hc0
                  go_wp2_with fail
                  go_roundw
                  case rel =>
                    refine ⟨m + 1, false, by omega, by omega, by go_num, rfl, hbl3, ?_⟩
                    unfold Hid
                    constructor
                    · intro h; cases h
                    · rintro ⟨_, g2⟩
                      have := g2 m hlx hly (by omega)
                      rw [HXM.out, HYM.out, ← HCE.out] at this
                      exact absurd this hc0
                  case measure => simp [intOf]; omega
              · have hdy : decide ((m : Int) < (ys.length : Int)) = false := by simp; omega
                have hall : fb = fin := by
                  have h1 := hfb.out
                  have h2 := HIT2.out
                  have h3 : fb = true ↔ fin = true := by
                    rw [h1, h2]
                    constructor
                    · rintro ⟨g1, g2⟩
                      exact ⟨g1, fun i q1 q2 => g2 i q1 q2 (by omega)⟩
                    · rintro ⟨g1, g2⟩
                      exact ⟨g1, fun i q1 q2 _ => g2 i q1 q2⟩
                  cases fb <;> cases fin <;> simp_all
                subst hall
                clear HIT HIT2 hfb
                go_wp2_with fail
                refine (hgE _).mono ?_
                rintro e w8 ⟨rfl, hq⟩
                have hq2 := hq.symm
                subst hq2
                clear hq
                cases fb
                · go_wp2_with fail
                  go_ret
                  exact ⟨rfl, hbl2⟩
                · go_wp2_with fail
                  go_ret
                  exact ⟨rfl, hbl2⟩
            · have hdx : decide ((m : Int) < (xs.length : Int)) = false := by simp; omega
              have hall : fb = fin := by
                have h1 := hfb.out
                have h2 := HIT2.out
                have h3 : fb = true ↔ fin = true := by
                  rw [h1, h2]
                  constructor
                  · rintro ⟨g1, g2⟩
                    exact ⟨g1, fun i q1 q2 => g2 i q1 q2 (by omega)⟩
                  · rintro ⟨g1, g2⟩
                    exact ⟨g1, fun i q1 q2 _ => g2 i q1 q2⟩
                cases fb <;> cases fin <;> simp_all
              subst hall
              clear HIT HIT2 hfb
              go_wp2_with fail
              refine (hgE _).mono ?_
              rintro e w8 ⟨rfl, hq⟩
              have hq2 := hq.symm
              subst hq2
              clear hq
              cases fb
              · go_wp2_with fail
                go_ret
                exact ⟨rfl, hbl2⟩
              · go_wp2_with fail
                go_ret
                exact ⟨rfl, hbl2⟩

end Go.Proofs.Ytahnpbgbekbfhab.orderBeginnings
