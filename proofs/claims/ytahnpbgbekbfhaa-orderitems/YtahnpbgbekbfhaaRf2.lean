/- The document's answers: two items compared. -/
import Derived.Test.YtahnpbgbekbfhaaRf1
namespace Go.Proofs.Ytahnpbgbekbfhaa
open Go.RowKit

attribute [local go_sem] fromBits toBits

set_option maxRecDepth 100000 in
set_option maxHeartbeats 1000000 in
theorem rfloats_any (a b : Nat) (w : World) (ha : a < 18446744073709551616) (hb : b < 18446744073709551616) :
    Calls Try.prog 43 #[.int .u64 (a : Int), .int .u64 (b : Int)] w fun e w' => e = .returned (.int .i64 (cmpF a b)) ∧ w' = w := by
  have hna := fun w => rnan_any a w ha
  have hnb := fun w => rnan_any b w hb
  cases na : nanB a with
  | true =>
    rw [na] at hna
    cases nb : nanB b with
    | true =>
      rw [nb] at hnb
      have e : cmpF a b = 0 := by simp [cmpF, na, nb]
      rw [e]
      go_enter Try.func43, Try.ntmps43
      go_wp2_with (go_at_call 52; (first | refine (hna _).mono ?_ | refine (hnb _).mono ?_); rintro e w' ⟨rfl, hq⟩; have hq2 := hq.symm; subst hq2; clear hq)
      all_goals go_ret
      all_goals exact ⟨rfl, rfl⟩
    | false =>
      rw [nb] at hnb
      have e : cmpF a b = 1 := by simp [cmpF, na, nb]
      rw [e]
      go_enter Try.func43, Try.ntmps43
      go_wp2_with (go_at_call 52; (first | refine (hna _).mono ?_ | refine (hnb _).mono ?_); rintro e w' ⟨rfl, hq⟩; have hq2 := hq.symm; subst hq2; clear hq)
      all_goals go_ret
      all_goals exact ⟨rfl, rfl⟩
  | false =>
    rw [na] at hna
    cases nb : nanB b with
    | true =>
      rw [nb] at hnb
      have e : cmpF a b = -1 := by simp [cmpF, na, nb]
      rw [e]
      go_enter Try.func43, Try.ntmps43
      go_wp2_with (go_at_call 52; (first | refine (hna _).mono ?_ | refine (hnb _).mono ?_); rintro e w' ⟨rfl, hq⟩; have hq2 := hq.symm; subst hq2; clear hq)
      all_goals go_ret
      all_goals exact ⟨rfl, rfl⟩
    | false =>
      rw [nb] at hnb
      obtain ⟨o1, o2⟩ := ord_lt ha hb na nb
      have e : cmpF a b = cmpI (key a) (key b) := by simp [cmpF, na, nb]
      rw [e]
      rcases Int.lt_trichotomy (key a) (key b) with h | h | h
      · rw [cmpI_lt h]
        have o3 := o1.trans (decide_eq_true h)
        have o4 := o2.trans (decide_eq_false (by omega))
        clear o1 o2 e
        go_enter Try.func43, Try.ntmps43
        go_wp2_with (go_at_call 52; (first | refine (hna _).mono ?_ | refine (hnb _).mono ?_); rintro e w' ⟨rfl, hq⟩; have hq2 := hq.symm; subst hq2; clear hq)
        all_goals go_ret
        all_goals exact ⟨rfl, rfl⟩
      · have o3 := o1.trans (decide_eq_false (by omega))
        have o4 := o2.trans (decide_eq_false (by omega))
        rw [h, cmpI_self]
        clear o1 o2 e
        go_enter Try.func43, Try.ntmps43
        go_wp2_with (go_at_call 52; (first | refine (hna _).mono ?_ | refine (hnb _).mono ?_); rintro e w' ⟨rfl, hq⟩; have hq2 := hq.symm; subst hq2; clear hq)
        all_goals go_ret
        all_goals exact ⟨rfl, rfl⟩
      · rw [cmpI_gt h]
        have o3 := o1.trans (decide_eq_false (by omega))
        have o4 := o2.trans (decide_eq_true h)
        clear o1 o2 e
        go_enter Try.func43, Try.ntmps43
        go_wp2_with (go_at_call 52; (first | refine (hna _).mono ?_ | refine (hnb _).mono ?_); rintro e w' ⟨rfl, hq⟩; have hq2 := hq.symm; subst hq2; clear hq)
        all_goals go_ret
        all_goals exact ⟨rfl, rfl⟩

theorem lexc_drop {a b : List Nat} {k : Nat} (h1 : k < a.length) (h2 : k < b.length) : lexc (a.drop k) (b.drop k) = orI (cmpI (at0 a k : Int) (at0 b k : Int)) (lexc (a.drop (k + 1)) (b.drop (k + 1))) := by
  rw [List.drop_eq_getElem_cons h1, List.drop_eq_getElem_cons h2, lexc_cons, at0_get h1, at0_get h2]
theorem lexc_end {a b : List Nat} {k : Nat} (h1 : k ≤ a.length) (h2 : k ≤ b.length) (h : ¬ k < a.length ∨ ¬ k < b.length) : lexc (a.drop k) (b.drop k) = cmpI (a.length : Int) (b.length : Int) := by
  rcases h with h | h
  · rw [List.drop_eq_nil_of_le (show a.length ≤ k by omega)]
    by_cases g : k < b.length
    · rw [List.drop_eq_getElem_cons g, cmpI_lt (by omega)]; rfl
    · rw [List.drop_eq_nil_of_le (show b.length ≤ k by omega), show a.length = b.length by omega, cmpI_self]; rfl
  · rw [List.drop_eq_nil_of_le (show b.length ≤ k by omega)]
    by_cases g : k < a.length
    · rw [List.drop_eq_getElem_cons g, cmpI_gt (by omega)]; rfl
    · rw [List.drop_eq_nil_of_le (show a.length ≤ k by omega), show a.length = b.length by omega, cmpI_self]; rfl

set_option maxRecDepth 100000 in
set_option maxHeartbeats 1000000 in
theorem rtexts_any (s t : ByteArray) (w : World) (hs : s.size ≤ 140737488355328) (ht : t.size ≤ 140737488355328) :
    Calls Try.prog 44 #[.string s, .string t] w fun e w' => e = .returned (.int .i64 (lexc (strNat s) (strNat t))) ∧ Below w.heap.size w w' := by
  have hsl : (strNat s).length = s.size := strNat_len s
  have htl : (strNat t).length = t.size := strNat_len t
  obtain ⟨res, hres⟩ : ∃ z, z = lexc (strNat s) (strNat t) := ⟨_, rfl⟩
  rw [← hres]
  have HRES := hide_it hres
  clear hres
  go_enter Try.func44, Try.ntmps44
  go_wp2_with fail
  go_loopw [5] (fun i wr => ∃ k : Nat, k ≤ s.size ∧ k ≤ t.size ∧ i = .int .i64 (k : Int) ∧ Below w.heap.size w wr ∧ Hid (res = lexc ((strNat s).drop k) ((strNat t).drop k))) (fun i _ => s.size - (intOf i).toNat)
  case atStart => exact ⟨0, by omega, by omega, rfl, Below.refl _ _, HRES⟩
  case round =>
    obtain ⟨k, hks, hkt, rfl, hbl, hto⟩ := hrel
    have hbs := hbl.size
    by_cases h1 : k < s.size
    · have hd1 : decide ((k : Int) < (s.size : Int)) = true := by simp; omega
      by_cases h2 : k < t.size
      · have hd2 : decide ((k : Int) < (t.size : Int)) = true := by simp; omega
        have hto2 := hto.out
        rw [lexc_drop (by omega) (by omega)] at hto2
        have i1 := str_at h1
        have i2 := str_at h2
        have z1 := (strNat_all s).at k
        have z2 := (strNat_all t).at k
        have hri := rints_any
        generalize at0 (strNat s) k = y at *
        generalize at0 (strNat t) k = z at *
        have HT := hide_it hto2
        clear hto hto2 hks hkt
        go_wp2_with fail
        go_quiet (fail)
        by_cases hyz : y = z
        · subst hyz
          have hd : ((y : Int) == (y : Int)) = true := by simp
          go_wp2_with fail
          go_roundw
          case rel => exact ⟨k + 1, by omega, by omega, by go_num, below_drewN hbl _, by unfold Hid; rw [HT.out, cmpI_self, orI_nil]⟩
          case measure => simp [intOf]; omega
        · have hd : ((y : Int) == (z : Int)) = false := by simp; omega
          go_wp2_with fail
          have hwy : IntKind.i64.wrap (y : Int) = (y : Int) := by simp [IntKind.wrap, IntKind.bits, IntKind.signed]; omega
          have hwz : IntKind.i64.wrap (z : Int) = (z : Int) := by simp [IntKind.wrap, IntKind.bits, IntKind.signed]; omega
          refine wp_region_held_drew (S := (fun w' => Below w.heap.size w w')) (by kernel_rfl) ?_ (fun hHeld => ?_)
          · exact (below_drewN hbl _).drew
          refine take_on (i := 0) (v := ?_) rfl rfl (by kernel_rfl) (by kernel_rfl) (by kernel_rfl) (fun _ _ _ h => h) rfl ?_ hHeld ?_
          rotate_left
          · (intro wq hSq; skip; go_simp <;> first | with_reducible rfl | rfl)
          simp only [Act.put, List.setIfInBounds_toArray, List.set_cons_zero, List.set_cons_succ]
          refine take_on (i := 1) (v := ?_) rfl rfl (by kernel_rfl) (by kernel_rfl) (by kernel_rfl) (fun _ _ _ h => h) rfl ?_ hHeld ?_
          rotate_left
          · (intro wq hSq; skip; go_simp <;> first | with_reducible rfl | rfl)
          simp only [Act.put, List.setIfInBounds_toArray, List.set_cons_zero, List.set_cons_succ]
          refine take_on (i := 2) (v := ?_) rfl rfl (by kernel_rfl) (by kernel_rfl) (by kernel_rfl) (fun _ _ _ h => h) rfl ?_ hHeld ?_
          rotate_left
          · (intro wq hSq; skip; go_simp <;> first | with_reducible rfl | rfl)
          simp only [Act.put, List.setIfInBounds_toArray, List.set_cons_zero, List.set_cons_succ]
          refine take_on (i := 3) (v := ?_) rfl rfl (by kernel_rfl) (by kernel_rfl) (by kernel_rfl) (fun _ _ _ h => h) rfl ?_ hHeld ?_
          rotate_left
          · (intro wq hSq; skip; go_simp <;> first | with_reducible rfl | rfl)
          simp only [Act.put, List.setIfInBounds_toArray, List.set_cons_zero, List.set_cons_succ]
          refine take_on (i := 4) (v := ?_) rfl rfl (by kernel_rfl) (by kernel_rfl) (by kernel_rfl) (fun _ _ _ h => h) rfl ?_ hHeld ?_
          rotate_left
          · (intro wq hSq; skip; go_simp <;> first | with_reducible rfl | rfl)
          simp only [Act.put, List.setIfInBounds_toArray, List.set_cons_zero, List.set_cons_succ]
          refine take_on (i := 5) (v := ?_) rfl rfl (by kernel_rfl) (by kernel_rfl) (by kernel_rfl) (fun _ _ _ h => h) rfl ?_ hHeld ?_
          rotate_left
          · (intro wq hSq; skip; go_simp <;> first | with_reducible rfl | rfl)
          simp only [Act.put, List.setIfInBounds_toArray, List.set_cons_zero, List.set_cons_succ]
          refine take_on (i := 6) (v := ?_) rfl rfl (by kernel_rfl) (by kernel_rfl) (by kernel_rfl) (fun _ _ _ h => h) rfl ?_ hHeld ?_
          rotate_left
          · (intro wq hSq; skip; go_simp <;> first | with_reducible rfl | rfl)
          simp only [Act.put, List.setIfInBounds_toArray, List.set_cons_zero, List.set_cons_succ]
          refine take_on (i := 7) (v := ?_) rfl rfl (by kernel_rfl) (by kernel_rfl) (by kernel_rfl) (fun _ _ _ h => h) rfl ?_ hHeld ?_
          rotate_left
          · (intro wq hSq; skip; go_simp <;> first | with_reducible rfl | rfl)
          simp only [Act.put, List.setIfInBounds_toArray, List.set_cons_zero, List.set_cons_succ]
          refine take_one (i := 8) rfl (by kernel_rfl) (fun K hK => ?_)
          go_simp
          refine (hri _ _ _).mono ?_; rintro e u ⟨rfl, hq⟩; have hq2 := hq.symm; subst hq2; clear hq
          try go_wp2_with fail
          refine hK.out _ _ ?_ (fun hHeld => ?_)
          · exact hHeld
          clear hK K
          try simp only [Act.put, List.setIfInBounds_toArray, List.set_cons_zero, List.set_cons_succ]
          refine take_on (i := 9) (v := ?_) rfl rfl (by kernel_rfl) (by kernel_rfl) (by kernel_rfl) (fun _ _ _ h => h) rfl ?_ hHeld ?_
          rotate_left
          · (intro wq hSq; skip; go_simp <;> first | with_reducible rfl | rfl)
          simp only [Act.put, List.setIfInBounds_toArray, List.set_cons_zero, List.set_cons_succ]
          refine wpAnyH_done (by kernel_rfl) ?_ _
          have HB := hide_it hHeld
          go_wp2_with fail
          go_ret
          have hne : cmpI (y : Int) (z : Int) ≠ 0 := by
            rcases Nat.lt_or_gt_of_ne hyz with g | g
            · rw [cmpI_lt (by omega)]; decide
            · rw [cmpI_gt (by omega)]; decide
          exact ⟨by rw [HT.out, orI_ne hne]; rfl, HB.out⟩
      · have hd2 : decide ((k : Int) < (t.size : Int)) = false := by simp; omega
        have HT := hide_it (hto.out.trans (lexc_end (by omega) (by omega) (by omega)))
        rw [hsl, htl] at HT
        have hri := rints_any (s.size : Int) (t.size : Int)
        clear hto hks hkt
        go_wp2_with fail
        refine (hri _).mono ?_
        rintro e u ⟨rfl, hq⟩
        have hq2 := hq.symm
        subst hq2
        clear hq
        go_wp2_with fail
        go_ret
        exact ⟨by rw [HT.out]; rfl, hbl⟩
    · have hd1 : decide ((k : Int) < (s.size : Int)) = false := by simp; omega
      have HT := hide_it (hto.out.trans (lexc_end (by omega) (by omega) (by omega)))
      rw [hsl, htl] at HT
      have hri := rints_any (s.size : Int) (t.size : Int)
      clear hto hks hkt
      go_wp2_with fail
      refine (hri _).mono ?_
      rintro e u ⟨rfl, hq⟩
      have hq2 := hq.symm
      subst hq2
      clear hq
      go_wp2_with fail
      go_ret
      exact ⟨by rw [HT.out]; rfl, hbl⟩

end Go.Proofs.Ytahnpbgbekbfhaa
