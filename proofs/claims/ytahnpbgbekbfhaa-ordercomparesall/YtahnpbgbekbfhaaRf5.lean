/- The document's answer: two lists of items compared. -/
import Derived.Test.YtahnpbgbekbfhaaRf4
namespace Go.Proofs.Ytahnpbgbekbfhaa
open Go.RowKit

theorem cmpAll_drop {xs ys : List It} {k : Nat} (h1 : k < xs.length) (h2 : k < ys.length) : cmpAll (xs.drop k) (ys.drop k) = orI (cmpIt xs[k] ys[k]) (cmpAll (xs.drop (k + 1)) (ys.drop (k + 1))) := by
  rw [List.drop_eq_getElem_cons h1, List.drop_eq_getElem_cons h2]; rfl
theorem cmpAll_end {a b : List It} {k : Nat} (h1 : k ≤ a.length) (h2 : k ≤ b.length) (h : ¬ k < a.length ∨ ¬ k < b.length) : cmpAll (a.drop k) (b.drop k) = cmpI (a.length : Int) (b.length : Int) := by
  rcases h with h | h
  · rw [List.drop_eq_nil_of_le (show a.length ≤ k by omega)]
    by_cases g : k < b.length
    · rw [List.drop_eq_getElem_cons g, cmpI_lt (by omega)]; rfl
    · rw [List.drop_eq_nil_of_le (show b.length ≤ k by omega), show a.length = b.length by omega, cmpI_self]; rfl
  · rw [List.drop_eq_nil_of_le (show b.length ≤ k by omega)]
    by_cases g : k < a.length
    · rw [List.drop_eq_getElem_cons g, cmpI_gt (by omega)]; rfl
    · rw [List.drop_eq_nil_of_le (show a.length ≤ k by omega), show a.length = b.length by omega, cmpI_self]; rfl

set_option maxRecDepth 100000 in
set_option maxHeartbeats 1000000 in
theorem rcompareAll_any (a b : Option Addr) (ca cb_ : Nat) (xs ys : List It) (w : World) (hx : RowR w a xs) (hy : RowR w b ys) (hxo : ∀ x ∈ xs, ItOk x ∧ x.t.size ≤ 140737488355328) (hyo : ∀ y ∈ ys, ItOk y ∧ y.t.size ≤ 140737488355328) (hlx : xs.length ≤ 140737488355328) (hly : ys.length ≤ 140737488355328) :
    Calls Try.prog 22 #[.slice a xs.length ca, .slice b ys.length cb_] w fun e w' => e = .returned (.int .i64 (cmpAll xs ys)) ∧ Below w.heap.size w w' := by
  obtain ⟨res, hres⟩ : ∃ z, z = cmpAll xs ys := ⟨_, rfl⟩
  rw [← hres]
  have HRES := hide_it hres
  have HX := hide_it hx
  have HY := hide_it hy
  have HXO := hide_it hxo
  have HYO := hide_it hyo
  clear hres hx hy hxo hyo
  go_enter Try.func22, Try.ntmps22
  go_wp2_with fail
  go_loopw [5] (fun i wr => ∃ k : Nat, k ≤ xs.length ∧ k ≤ ys.length ∧ i = .int .i64 (k : Int) ∧ Below w.heap.size w wr ∧ Hid (res = cmpAll (xs.drop k) (ys.drop k))) (fun i _ => xs.length - (intOf i).toNat)
  case atStart => exact ⟨0, by omega, by omega, rfl, Below.refl _ _, HRES⟩
  case round =>
    obtain ⟨k, hkx, hky, rfl, hbl, hto⟩ := hrel
    have hbs := hbl.size
    by_cases h1 : k < xs.length
    · have hd1 : decide ((k : Int) < (xs.length : Int)) = true := by simp; omega
      by_cases h2 : k < ys.length
      · have hd2 : decide ((k : Int) < (ys.length : Int)) = true := by simp; omega
        obtain ⟨b1, o1, rfl, l1, at1⟩ := HX.out.here h1
        obtain ⟨b2, o2, rfl, l2, at2⟩ := HY.out.here h2
        have at1' := at1.below hbl l1
        have at2' := at2.below hbl l2
        have lw1 : b1 < wr.heap.size := Nat.lt_of_lt_of_le l1 hbs
        have lw2 : b2 < wr.heap.size := Nat.lt_of_lt_of_le l2 hbs
        have okx := HXO.out xs[k] (List.getElem_mem h1)
        have oky := HYO.out ys[k] (List.getElem_mem h2)
        have hcp := fun w => rcompare_any xs[k] ys[k] w okx.1 oky.1 okx.2 oky.2
        have hto2 := hto.out
        rw [cmpAll_drop h1 h2] at hto2
        have HT := hide_it hto2
        clear at1 at2 okx oky hto hto2 hkx hky
        generalize xs[k] = x at *
        generalize ys[k] = y at *
        generalize cmpIt x y = c at *
        go_wp2_with fail
        refine wp_region_held_drew (S := (fun w' => Below wr.heap.size wr w')) (by kernel_rfl) ?_ (fun hHeld => ?_)
        · exact (Below.refl _ _).drew
        refine take_on (i := 0) (v := ?_) rfl rfl (by kernel_rfl) (by kernel_rfl) (by kernel_rfl) (fun _ _ _ h => h) rfl ?_ hHeld ?_
        rotate_left
        · (intro wq hSq; obtain ⟨q0, q1, q2, q3, q4, q5, q6⟩ := at1'.below hSq lw1; obtain ⟨p0, p1, p2, p3, p4, p5, p6⟩ := at2'.below hSq lw2; go_simp <;> first | with_reducible rfl | rfl)
        simp only [Act.put, List.setIfInBounds_toArray, List.set_cons_zero, List.set_cons_succ]
        refine take_on (i := 1) (v := ?_) rfl rfl (by kernel_rfl) (by kernel_rfl) (by kernel_rfl) (fun _ _ _ h => h) rfl ?_ hHeld ?_
        rotate_left
        · (intro wq hSq; obtain ⟨q0, q1, q2, q3, q4, q5, q6⟩ := at1'.below hSq lw1; obtain ⟨p0, p1, p2, p3, p4, p5, p6⟩ := at2'.below hSq lw2; go_simp <;> first | with_reducible rfl | rfl)
        simp only [Act.put, List.setIfInBounds_toArray, List.set_cons_zero, List.set_cons_succ]
        refine take_on (i := 2) (v := ?_) rfl rfl (by kernel_rfl) (by kernel_rfl) (by kernel_rfl) (fun _ _ _ h => h) rfl ?_ hHeld ?_
        rotate_left
        · (intro wq hSq; obtain ⟨q0, q1, q2, q3, q4, q5, q6⟩ := at1'.below hSq lw1; obtain ⟨p0, p1, p2, p3, p4, p5, p6⟩ := at2'.below hSq lw2; go_simp <;> first | with_reducible rfl | rfl)
        simp only [Act.put, List.setIfInBounds_toArray, List.set_cons_zero, List.set_cons_succ]
        refine take_on (i := 3) (v := ?_) rfl rfl (by kernel_rfl) (by kernel_rfl) (by kernel_rfl) (fun _ _ _ h => h) rfl ?_ hHeld ?_
        rotate_left
        · (intro wq hSq; obtain ⟨q0, q1, q2, q3, q4, q5, q6⟩ := at1'.below hSq lw1; obtain ⟨p0, p1, p2, p3, p4, p5, p6⟩ := at2'.below hSq lw2; go_simp <;> first | with_reducible rfl | rfl)
        simp only [Act.put, List.setIfInBounds_toArray, List.set_cons_zero, List.set_cons_succ]
        refine take_on (i := 4) (v := ?_) rfl rfl (by kernel_rfl) (by kernel_rfl) (by kernel_rfl) (fun _ _ _ h => h) rfl ?_ hHeld ?_
        rotate_left
        · (intro wq hSq; obtain ⟨q0, q1, q2, q3, q4, q5, q6⟩ := at1'.below hSq lw1; obtain ⟨p0, p1, p2, p3, p4, p5, p6⟩ := at2'.below hSq lw2; go_simp <;> first | with_reducible rfl | rfl)
        simp only [Act.put, List.setIfInBounds_toArray, List.set_cons_zero, List.set_cons_succ]
        refine take_on (i := 5) (v := ?_) rfl rfl (by kernel_rfl) (by kernel_rfl) (by kernel_rfl) (fun _ _ _ h => h) rfl ?_ hHeld ?_
        rotate_left
        · (intro wq hSq; obtain ⟨q0, q1, q2, q3, q4, q5, q6⟩ := at1'.below hSq lw1; obtain ⟨p0, p1, p2, p3, p4, p5, p6⟩ := at2'.below hSq lw2; go_simp <;> first | with_reducible rfl | rfl)
        simp only [Act.put, List.setIfInBounds_toArray, List.set_cons_zero, List.set_cons_succ]
        refine take_on (i := 6) (v := ?_) rfl rfl (by kernel_rfl) (by kernel_rfl) (by kernel_rfl) (fun _ _ _ h => h) rfl ?_ hHeld ?_
        rotate_left
        · (intro wq hSq; obtain ⟨q0, q1, q2, q3, q4, q5, q6⟩ := at1'.below hSq lw1; obtain ⟨p0, p1, p2, p3, p4, p5, p6⟩ := at2'.below hSq lw2; go_simp <;> first | with_reducible rfl | rfl)
        simp only [Act.put, List.setIfInBounds_toArray, List.set_cons_zero, List.set_cons_succ]
        refine take_on (i := 7) (v := ?_) rfl rfl (by kernel_rfl) (by kernel_rfl) (by kernel_rfl) (fun _ _ _ h => h) rfl ?_ hHeld ?_
        rotate_left
        · (intro wq hSq; obtain ⟨q0, q1, q2, q3, q4, q5, q6⟩ := at1'.below hSq lw1; obtain ⟨p0, p1, p2, p3, p4, p5, p6⟩ := at2'.below hSq lw2; go_simp <;> first | with_reducible rfl | rfl)
        simp only [Act.put, List.setIfInBounds_toArray, List.set_cons_zero, List.set_cons_succ]
        refine take_one (i := 8) rfl (by kernel_rfl) (fun K hK => ?_)
        go_simp
        refine (hcp _).mono ?_; rintro e y1 ⟨rfl, hq1⟩; have hSx := hHeld.trans (hq1.mono hHeld.size); clear hq1
        try go_wp2_with fail
        refine hK.out _ _ ?_ (fun hHeld => ?_)
        · exact hSx
        clear hK K
        try simp only [Act.put, List.setIfInBounds_toArray, List.set_cons_zero, List.set_cons_succ]
        refine take_on (i := 9) (v := ?_) rfl rfl (by kernel_rfl) (by kernel_rfl) (by kernel_rfl) (fun _ _ _ h => h) rfl ?_ hHeld ?_
        rotate_left
        · (intro wq hSq; obtain ⟨q0, q1, q2, q3, q4, q5, q6⟩ := at1'.below hSq lw1; obtain ⟨p0, p1, p2, p3, p4, p5, p6⟩ := at2'.below hSq lw2; go_simp <;> first | with_reducible rfl | rfl)
        simp only [Act.put, List.setIfInBounds_toArray, List.set_cons_zero, List.set_cons_succ]
        refine wpAnyH_done (by kernel_rfl) ?_ _
        have hbl3 := hbl.trans (hHeld.mono hbs)
        by_cases hc0 : c = 0
        · subst hc0
          go_wp2_with fail
          go_roundw
          case rel => exact ⟨k + 1, by omega, by omega, by go_num, hbl3, by unfold Hid; rw [HT.out, orI_nil]⟩
          case measure => simp [intOf]; omega
        · have hcb : (c == 0) = false := by simpa using hc0
          go_wp2_with fail
          go_ret
          exact ⟨by rw [HT.out, orI_ne hc0]; rfl, hbl3⟩
      · have hd2 : decide ((k : Int) < (ys.length : Int)) = false := by simp; omega
        have HT := hide_it (hto.out.trans (cmpAll_end hkx hky (by omega)))
        have hri := rints_any (xs.length : Int) (ys.length : Int)
        clear hto hkx hky
        go_wp2_with fail
        refine (hri _).mono ?_
        rintro e u ⟨rfl, hq⟩
        have hq2 := hq.symm
        subst hq2
        clear hq
        go_wp2_with fail
        go_ret
        exact ⟨by rw [HT.out]; rfl, hbl⟩
    · have hd1 : decide ((k : Int) < (xs.length : Int)) = false := by simp; omega
      have HT := hide_it (hto.out.trans (cmpAll_end hkx hky (by omega)))
      have hri := rints_any (xs.length : Int) (ys.length : Int)
      clear hto hkx hky
      go_wp2_with fail
      refine (hri _).mono ?_
      rintro e u ⟨rfl, hq⟩
      have hq2 := hq.symm
      subst hq2
      clear hq
      go_wp2_with fail
      go_ret
      exact ⟨by rw [HT.out]; rfl, hbl⟩
end Go.Proofs.Ytahnpbgbekbfhaa
