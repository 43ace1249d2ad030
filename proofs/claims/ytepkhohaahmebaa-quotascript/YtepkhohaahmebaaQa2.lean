/- Accounts: Begin, Charge, End, Settle of the program. -/
import Derived.Test.YtepkhohaahmebaaQa1
namespace Go.Proofs.Ytepkhohaahmebaa
open Go.RowKit

set_option maxRecDepth 100000 in
theorem holds_any (c : Ac) (ht : c.t = true) (b : Nat) (w : World) (hp : Pa w b c) (n : Int) : Calls Try.prog 25 #[.pointer (some ⟨b, 0, none⟩), .int .i64 n] w fun e w' => e = .returned (.bool (decide (0 ≤ n ∧ n ≤ c.p))) ∧ w' = w := by
  obtain ⟨_, _, _, h3, _, _⟩ := hp.cells ht
  clear ht hp
  generalize c.p = p at *
  by_cases h1 : 0 ≤ n
  · by_cases h2 : n ≤ p
    · have hd : decide (0 ≤ n ∧ n ≤ p) = true := decide_eq_true ⟨h1, h2⟩
      rw [hd]; clear hd
      go_enter Try.func25, Try.ntmps25
      go_wp2
      go_ret
      exact ⟨rfl, rfl⟩
    · have hd : decide (0 ≤ n ∧ n ≤ p) = false := decide_eq_false (by omega)
      rw [hd]; clear hd
      go_enter Try.func25, Try.ntmps25
      go_wp2
      go_ret
      exact ⟨rfl, rfl⟩
  · have hd : decide (0 ≤ n ∧ n ≤ p) = false := decide_eq_false (by omega)
    rw [hd]; clear hd
    go_enter Try.func25, Try.ntmps25
    go_wp2
    go_ret
    exact ⟨rfl, rfl⟩

theorem Went.drew {w w' : World} {b : Nat} {c c' : Ac} (h : Went w.drew b c c' w') : Went w b c c' w' := ⟨h.pk, h.chg.os, h.chg.tape, h.chg.output, h.chg.size, h.chg.block⟩
/-- What count leaves. -/
def cnt (c : Ac) (x y : Int) : Ac := if x + y ≤ c.q then { c with l := x, p := y } else c
def cntE (c : Ac) (x y : Int) : Int := if x + y ≤ c.q then 0 else 150
set_option maxRecDepth 100000 in
set_option maxHeartbeats 400000 in
theorem count_any (c : Ac) (ht : c.t = true) (b : Nat) (w : World) (hp : Pa w b c) (x y : Int) (hx : 0 ≤ x ∧ x ≤ 1048576) (hy : 0 ≤ y ∧ y ≤ 4194304) :
    Calls Try.prog 27 #[.pointer (some ⟨b, 0, none⟩), .int .i64 x, .int .i64 y] w fun e w' => e = .returned (.int .i64 (cntE c x y)) ∧ Went w b c (cnt c x y) w' := by
  obtain ⟨h0, h1, h2, h3, h4, hf⟩ := hp.cells ht
  have f2 := hf 2
  have f3 := hf 3
  have hw : IntKind.i64.wrap (x + y) = x + y := i64_in (by omega) (by omega)
  have HP := hide_it hp
  have HT := hide_it ht
  clear hf h1 h4 hp ht hx hy
  by_cases h : x + y ≤ c.q
  · have e1 : cnt c x y = { c with l := x, p := y } := by simp [cnt, h]
    have e2 : cntE c x y = 0 := by simp [cntE, h]
    rw [e1, e2]
    clear e1 e2
    have HQ := hide_it ((HP.out.putL x).putP y)
    generalize c.q = q at *
    go_enter Try.func27, Try.ntmps27
    go_wp2
    go_ret
    exact ⟨rfl, HQ.out, ((Chg.refl _ w).setCell _ _ (fun _ => ⟨HT.out, rfl⟩)).setCell _ _ (fun _ => ⟨HT.out, rfl⟩)⟩
  · have e1 : cnt c x y = c := by simp [cnt, h]
    have e2 : cntE c x y = 150 := by simp [cntE, h]
    rw [e1, e2]
    clear e1 e2
    generalize c.q = q at *
    go_enter Try.func27, Try.ntmps27
    go_wp2
    go_ret
    exact ⟨rfl, HP.out, Chg.refl _ _⟩

set_option maxRecDepth 100000 in
set_option maxHeartbeats 400000 in
theorem begin_any (c : Ac) (hc : AcOk c) (b : Nat) (w : World) (hp : Pa w b c) : Calls Try.prog 10 #[ptrA c b] w fun e w' => e = .returned (.int .i64 (begE c)) ∧ Went w b c (begA c) w' := by
  cases ht : c.t with
  | false =>
    have e1 : begE c = 1 := by simp [begE, ht]
    have e2 : begA c = c := by simp [begA, ht]
    have e3 : ptrA c b = .pointer none := by simp [ptrA, ht]
    rw [e1, e2, e3]
    clear e1 e2 e3 ht
    go_enter Try.func10, Try.ntmps10
    go_wp2
    go_ret
    exact ⟨rfl, hp, Chg.refl _ _⟩
  | true =>
    obtain ⟨h0, h1, h2, h3, h4, hf⟩ := hp.cells ht
    have f4 := hf 4
    have e3 : ptrA c b = .pointer (some ⟨b, 0, none⟩) := by simp [ptrA, ht]
    have hw : IntKind.i64.wrap (c.o + 1) = c.o + 1 := by have := hc.o; have := hc.m; exact i64_in (by omega) (by omega)
    rw [e3]
    clear hf h0 h2 h3 e3
    by_cases h : c.o < c.m
    · have e1 : begE c = 0 := by simp [begE, ht, h]
      have e2 : begA c = { c with o := c.o + 1 } := by simp [begA, ht, h]
      rw [e1, e2]
      have hput := hide_it (hp.putO (c.o + 1))
      have HT := hide_it ht
      clear e1 e2 ht hp hc
      generalize c.o = o at *
      generalize c.m = m at *
      go_enter Try.func10, Try.ntmps10
      go_wp2
      go_quiet (fail)
      go_wp2
      go_ret
      exact ⟨rfl, hput.out, (Chg.new (below_drewN (Below.refl _ _) _)).setCell _ _ (fun _ => ⟨HT.out, rfl⟩)⟩
    · have e1 : begE c = 151 := by simp [begE, ht, h]
      have e2 : begA c = c := by simp [begA, h]
      rw [e1, e2]
      have HP := hide_it hp
      clear e1 e2 ht hp hc
      generalize c.o = o at *
      generalize c.m = m at *
      go_enter Try.func10, Try.ntmps10
      go_wp2
      go_quiet (fail)
      go_wp2
      go_ret
      exact ⟨rfl, HP.out, Chg.new (below_drewN (Below.refl _ _) _)⟩

set_option maxRecDepth 100000 in
set_option maxHeartbeats 400000 in
theorem settle_any (c : Ac) (hc : AcOk c) (b : Nat) (w : World) (hp : Pa w b c) (x : Int) : Calls Try.prog 16 #[ptrA c b, .int .i64 x] w fun e w' => e = .returned (.int .i64 (setE c x)) ∧ Went w b c (setA c x) w' := by
  cases ht : c.t with
  | false =>
    have e1 : setE c x = 1 := by simp [setE, ht]
    have e2 : setA c x = c := by simp [setA, ht]
    have e3 : ptrA c b = .pointer none := by simp [ptrA, ht]
    rw [e1, e2, e3]
    clear e1 e2 e3 ht
    go_enter Try.func16, Try.ntmps16
    go_wp2
    go_ret
    exact ⟨rfl, hp, Chg.refl _ _⟩
  | true =>
    have hb := isBytes_any x
    have e3 : ptrA c b = .pointer (some ⟨b, 0, none⟩) := by simp [ptrA, ht]
    rw [e3]
    clear e3
    cases h : isB x with
    | false =>
      have e1 : setE c x = 2 := by simp [setE, ht, h]
      have e2 : setA c x = c := by simp [setA, h]
      rw [e1, e2]
      rw [h] at hb
      have HP := hide_it hp
      clear e1 e2 ht hp hc h
      go_enter Try.func16, Try.ntmps16
      go_wp2_with (refine (hb _).mono ?_; rintro e w1 ⟨rfl, rfl⟩)
      go_ret
      exact ⟨rfl, HP.out, Chg.refl _ _⟩
    | true =>
      obtain ⟨h0, h1, h2, h3, h4, hf⟩ := hp.cells ht
      have hx : 0 ≤ x ∧ x ≤ 1048576 := by simpa [isB] using h
      have hq := hc.q; have hlp := hc.lp; have hl := hc.l; have hpp := hc.p
      have hcn := count_any c ht b w hp x c.p hx ⟨hc.p, by omega⟩
      have e1 : setE c x = cntE c x c.p := by simp [setE, ht, h, setFit, cntE]
      have e2 : setA c x = cnt c x c.p := by simp [setA, ht, h, setFit, cnt]
      rw [e1, e2]
      rw [h] at hb
      clear e1 e2 ht hp hc h h0 h1 h2 h4 hf hq hlp hl hpp hx
      generalize cntE c x c.p = E at *
      generalize cnt c x c.p = C at *
      generalize c.p = p at *
      go_enter Try.func16, Try.ntmps16
      go_wp2_with fail
      refine (hb _).mono ?_
      rintro e w1 ⟨rfl, hq⟩
      have hq2 := hq.symm
      subst hq2
      clear hq
      go_wp2_with fail
      refine hcn.mono ?_
      rintro e w2 ⟨rfl, h9⟩
      clear hcn hb h3
      have h9 := hide_it h9
      go_wp2
      go_ret
      exact ⟨rfl, h9.out⟩

set_option maxRecDepth 100000 in
set_option maxHeartbeats 400000 in
theorem end_any (c : Ac) (hc : AcOk c) (b : Nat) (w : World) (hp : Pa w b c) (x : Int) : Calls Try.prog 14 #[ptrA c b, .int .i64 x] w fun e w' => e = .returned (.int .i64 (endE c x)) ∧ Went w b c (endA c x) w' := by
  cases ht : c.t with
  | false =>
    have e1 : endE c x = 1 := by simp [endE, ht]
    have e2 : endA c x = c := by simp [endA, ht]
    have e3 : ptrA c b = .pointer none := by simp [ptrA, ht]
    rw [e1, e2, e3]
    clear e1 e2 e3 ht
    go_enter Try.func14, Try.ntmps14
    go_wp2
    go_ret
    exact ⟨rfl, hp, Chg.refl _ _⟩
  | true =>
    have hh := holds_any c ht b w hp x
    obtain ⟨h0, h1, h2, h3, h4, hf⟩ := hp.cells ht
    have e3 : ptrA c b = .pointer (some ⟨b, 0, none⟩) := by simp [ptrA, ht]
    rw [e3]
    clear e3 h0 h1 h2
    have f3 := hf 3
    have f4 := hf 4
    clear hf
    by_cases ho : c.o = 0
    · have e1 : endE c x = 2 := by simp [endE, ht, endOk, ho]
      have e2 : endA c x = c := by simp [endA, endOk, ho]
      have hoo : (c.o == 0) = true := by simp [ho]
      rw [e1, e2]
      have HP := hide_it hp
      clear e1 e2 ht hp hc ho hh
      generalize c.o = o at *
      go_enter Try.func14, Try.ntmps14
      go_wp2_with fail
      go_ret
      exact ⟨rfl, HP.out, Chg.refl _ _⟩
    · have hoo : (c.o == 0) = false := by simp [ho]
      by_cases hx : 0 ≤ x ∧ x ≤ c.p
      · have e1 : endE c x = 0 := by simp [endE, ht, endOk, ho, hx]
        have e2 : endA c x = { c with o := c.o - 1, p := c.p - x } := by simp [endA, ht, endOk, ho, hx]
        rw [decide_eq_true hx] at hh
        have hw1 : IntKind.i64.wrap (c.o - 1) = c.o - 1 := by have := hc.o; have := hc.m; exact i64_in (by omega) (by omega)
        have hw2 : IntKind.i64.wrap (c.p - x) = c.p - x := by have := hc.p; have := hc.q; have := hc.l; have := hc.lp; exact i64_in (by omega) (by omega)
        rw [e1, e2]
        have HP := hide_it ((hp.putO (c.o - 1)).putP (c.p - x))
        have HT := hide_it ht
        clear e1 e2 ht hp hc ho hx
        generalize c.o = o at *
        generalize c.p = p at *
        go_enter Try.func14, Try.ntmps14
        go_wp2_with (refine hh.mono ?_; rintro e w1 ⟨rfl, hq⟩; have hq2 := hq.symm; subst hq2; clear hq)
        go_ret
        exact ⟨rfl, HP.out, ((Chg.refl _ w).setCell _ _ (fun _ => ⟨HT.out, rfl⟩)).setCell _ _ (fun _ => ⟨HT.out, rfl⟩)⟩
      · have e1 : endE c x = 2 := by simp only [endE, ht, endOk, hoo]; simp [hx]
        have e2 : endA c x = c := by simp only [endA, ht, endOk, hoo]; simp [hx]
        rw [decide_eq_false hx] at hh
        rw [e1, e2]
        have HP := hide_it hp
        clear e1 e2 ht hp hc ho hx
        generalize c.o = o at *
        generalize c.p = p at *
        go_enter Try.func14, Try.ntmps14
        go_wp2_with (refine hh.mono ?_; rintro e w1 ⟨rfl, hq⟩; have hq2 := hq.symm; subst hq2; clear hq)
        go_ret
        exact ⟨rfl, HP.out, Chg.refl _ _⟩

set_option maxRecDepth 100000 in
set_option maxHeartbeats 1000000 in
theorem charge_any (c : Ac) (hc : AcOk c) (b : Nat) (w : World) (hp : Pa w b c) (x y : Int) : Calls Try.prog 12 #[ptrA c b, .int .i64 x, .int .i64 y] w fun e w' => e = .returned (.int .i64 (chgE c x y)) ∧ Went w b c (chgA c x y) w' := by
  cases ht : c.t with
  | false =>
    have e1 : chgE c x y = 1 := by simp [chgE, ht]
    have e2 : chgA c x y = c := by simp [chgA, ht]
    have e3 : ptrA c b = .pointer none := by simp [ptrA, ht]
    rw [e1, e2, e3]
    clear e1 e2 e3 ht
    go_enter Try.func12, Try.ntmps12
    go_wp2
    go_ret
    exact ⟨rfl, hp, Chg.refl _ _⟩
  | true =>
    have hh := holds_any c ht b w hp x
    have hb := isBytes_any y
    have e3 : ptrA c b = .pointer (some ⟨b, 0, none⟩) := by simp [ptrA, ht]
    rw [e3]
    clear e3
    by_cases hx : 0 ≤ x ∧ x ≤ c.p
    · rw [decide_eq_true hx] at hh
      cases hy : isB y with
      | false =>
        have e1 : chgE c x y = 2 := by simp [chgE, ht, chgOk, hy]
        have e2 : chgA c x y = c := by simp [chgA, chgOk, hy]
        rw [hy] at hb
        rw [e1, e2]
        have HP := hide_it hp
        clear e1 e2 ht hp hc hx hy
        go_enter Try.func12, Try.ntmps12
        go_wp2_with (first | (refine hh.mono ?_; rintro e w1 ⟨rfl, hq⟩; have hq2 := hq.symm; subst hq2; clear hq) | (refine (hb _).mono ?_; rintro e w1 ⟨rfl, rfl⟩))
        go_ret
        exact ⟨rfl, HP.out, Chg.refl _ _⟩
      | true =>
        have hy2 : 0 ≤ y ∧ y ≤ 1048576 := by simpa [isB] using hy
        have hq := hc.q; have hlp := hc.lp; have hl := hc.l; have hpp := hc.p
        have hw1 : IntKind.i64.wrap (c.p - x) = c.p - x := i64_in (by omega) (by omega)
        have hw2 : IntKind.i64.wrap (c.p - x + y) = c.p - x + y := i64_in (by omega) (by omega)
        obtain ⟨h0, h1, h2, h3, h4, hf⟩ := hp.cells ht
        have hcn : ∀ W : World, Pa W b c → Calls Try.prog 27 #[.pointer (some ⟨b, 0, none⟩), .int .i64 c.l, .int .i64 (c.p - x + y)] W fun e w' => e = .returned (.int .i64 (cntE c c.l (c.p - x + y))) ∧ Went W b c (cnt c c.l (c.p - x + y)) w' :=
          fun W hW => count_any c ht b W hW c.l (c.p - x + y) ⟨hl, by omega⟩ ⟨by omega, by omega⟩
        have e1 : chgE c x y = cntE c c.l (c.p - x + y) := by simp [chgE, ht, chgOk, hx, hy, chgFit, cntE]
        have e2 : chgA c x y = cnt c c.l (c.p - x + y) := by simp [chgA, ht, chgOk, hx, hy, chgFit, cnt]
        rw [hy] at hb
        rw [e1, e2]
        have HP := hide_it hp
        clear e1 e2 ht hp hc hx hy hf h0 h1 h4 hq hlp hl hpp hy2
        generalize cntE c c.l (c.p - x + y) = E at *
        generalize cnt c c.l (c.p - x + y) = C at *
        generalize c.p = p at *
        generalize c.l = l at *
        go_enter Try.func12, Try.ntmps12
        go_wp2_with (first | (refine hh.mono ?_; rintro e w1 ⟨rfl, hq⟩; have hq2 := hq.symm; subst hq2; clear hq) | (refine (hb _).mono ?_; rintro e w1 ⟨rfl, rfl⟩))
        clear hh hb
        refine wp_region_held_drew (S := (fun _ => True)) (by kernel_rfl) ?_ (fun hHeld => ?_)
        · trivial
        refine take_on (i := 0) (v := ?_) rfl rfl (by kernel_rfl) (by kernel_rfl) (by kernel_rfl) (fun _ _ _ h => h) rfl ?_ hHeld ?_
        rotate_left
        · (intro wq hSq; skip; go_simp <;> first | with_reducible rfl | rfl)
        simp only [Act.put, List.setIfInBounds_toArray, List.set_cons_zero, List.set_cons_succ]
        refine take_on (i := 1) (v := ?_) rfl rfl (by kernel_rfl) (by kernel_rfl) (by kernel_rfl) (fun _ _ _ h => h) rfl ?_ hHeld ?_
        rotate_left
        · (intro wq hSq; skip; go_simp <;> first | with_reducible rfl | rfl)
        simp only [Act.put, List.setIfInBounds_toArray, List.set_cons_zero, List.set_cons_succ]
        refine take_on (i := 2) (v := ?_) rfl rfl (by kernel_rfl) (by kernel_rfl) (by kernel_rfl) (fun _ _ _ h => h) rfl ?_ hHeld ?_
        rotate_left
        · (intro wq hSq; skip; go_simp <;> first | with_reducible rfl | rfl)
        simp only [Act.put, List.setIfInBounds_toArray, List.set_cons_zero, List.set_cons_succ]
        refine take_on (i := 3) (v := ?_) rfl rfl (by kernel_rfl) (by kernel_rfl) (by kernel_rfl) (fun _ _ _ h => h) rfl ?_ hHeld ?_
        rotate_left
        · (intro wq hSq; skip; go_simp <;> first | with_reducible rfl | rfl)
        simp only [Act.put, List.setIfInBounds_toArray, List.set_cons_zero, List.set_cons_succ]
        refine take_on (i := 5) (v := ?_) rfl rfl (by kernel_rfl) (by kernel_rfl) (by kernel_rfl) (fun _ _ _ h => h) rfl ?_ hHeld ?_
        rotate_left
        · (intro wq hSq; skip; go_simp <;> first | with_reducible rfl | rfl)
        simp only [Act.put, List.setIfInBounds_toArray, List.set_cons_zero, List.set_cons_succ]
        refine take_on (i := 6) (v := ?_) rfl rfl (by kernel_rfl) (by kernel_rfl) (by kernel_rfl) (fun _ _ _ h => h) rfl ?_ hHeld ?_
        rotate_left
        · (intro wq hSq; skip; go_simp <;> first | with_reducible rfl | rfl)
        simp only [Act.put, List.setIfInBounds_toArray, List.set_cons_zero, List.set_cons_succ]
        refine take_on (i := 7) (v := ?_) rfl rfl (by kernel_rfl) (by kernel_rfl) (by kernel_rfl) (fun _ _ _ h => h) rfl ?_ hHeld ?_
        rotate_left
        · (intro wq hSq; skip; go_simp <;> first | with_reducible rfl | rfl)
        simp only [Act.put, List.setIfInBounds_toArray, List.set_cons_zero, List.set_cons_succ]
        refine take_on (i := 9) (v := ?_) rfl rfl (by kernel_rfl) (by kernel_rfl) (by kernel_rfl) (fun _ _ _ h => h) rfl ?_ hHeld ?_
        rotate_left
        · (intro wq hSq; skip; go_simp <;> first | with_reducible rfl | rfl)
        simp only [Act.put, List.setIfInBounds_toArray, List.set_cons_zero, List.set_cons_succ]
        refine take_on (i := 11) (v := ?_) rfl rfl (by kernel_rfl) (by kernel_rfl) (by kernel_rfl) (fun _ _ _ h => h) rfl ?_ hHeld ?_
        rotate_left
        · (intro wq hSq; skip; go_simp <;> first | with_reducible rfl | rfl)
        simp only [Act.put, List.setIfInBounds_toArray, List.set_cons_zero, List.set_cons_succ]
        refine take_two (i := 4) (j := 8) rfl rfl (by kernel_rfl) (fun K hK => ?_) (fun K hK => ?_)
        · go_simp
          skip
          try go_wp2_with fail
          refine hK.out _ _ ?_ (fun hHeld => ?_)
          · trivial
          clear hK K
          try simp only [Act.put, List.setIfInBounds_toArray, List.set_cons_zero, List.set_cons_succ]
          refine take_one (i := 8) rfl (by kernel_rfl) (fun K hK => ?_)
          go_simp
          skip
          try go_wp2_with fail
          refine hK.out _ _ ?_ (fun hHeld => ?_)
          · trivial
          clear hK K
          try simp only [Act.put, List.setIfInBounds_toArray, List.set_cons_zero, List.set_cons_succ]
          refine take_on (i := 10) (v := ?_) rfl rfl (by kernel_rfl) (by kernel_rfl) (by kernel_rfl) (fun _ _ _ h => h) rfl ?_ hHeld ?_
          rotate_left
          · (intro wq hSq; skip; go_simp <;> first | with_reducible rfl | rfl)
          simp only [Act.put, List.setIfInBounds_toArray, List.set_cons_zero, List.set_cons_succ]
          refine take_on (i := 12) (v := ?_) rfl rfl (by kernel_rfl) (by kernel_rfl) (by kernel_rfl) (fun _ _ _ h => h) rfl ?_ hHeld ?_
          rotate_left
          · (intro wq hSq; skip; go_simp <;> first | with_reducible rfl | rfl)
          simp only [Act.put, List.setIfInBounds_toArray, List.set_cons_zero, List.set_cons_succ]
          refine take_one (i := 13) rfl (by kernel_rfl) (fun K hK => ?_)
          go_simp
          (refine (hcn w1.drew HP.out).mono ?_; rintro e w2 ⟨rfl, h9⟩; replace h9 := hide_it h9)
          try go_wp2_with fail
          refine hK.out _ _ ?_ (fun hHeld => ?_)
          · trivial
          clear hK K
          try simp only [Act.put, List.setIfInBounds_toArray, List.set_cons_zero, List.set_cons_succ]
          refine take_on (i := 14) (v := ?_) rfl rfl (by kernel_rfl) (by kernel_rfl) (by kernel_rfl) (fun _ _ _ h => h) rfl ?_ hHeld ?_
          rotate_left
          · (intro wq hSq; skip; go_simp <;> first | with_reducible rfl | rfl)
          simp only [Act.put, List.setIfInBounds_toArray, List.set_cons_zero, List.set_cons_succ]
          refine wpAnyH_done (by kernel_rfl) ?_ _
          go_wp2
          go_ret
          exact ⟨rfl, h9.out.drew⟩
        · go_simp
          skip
          try go_wp2_with fail
          refine hK.out _ _ ?_ (fun hHeld => ?_)
          · trivial
          clear hK K
          try simp only [Act.put, List.setIfInBounds_toArray, List.set_cons_zero, List.set_cons_succ]
          refine take_on (i := 10) (v := ?_) rfl rfl (by kernel_rfl) (by kernel_rfl) (by kernel_rfl) (fun _ _ _ h => h) rfl ?_ hHeld ?_
          rotate_left
          · (intro wq hSq; skip; go_simp <;> first | with_reducible rfl | rfl)
          simp only [Act.put, List.setIfInBounds_toArray, List.set_cons_zero, List.set_cons_succ]
          refine take_on (i := 12) (v := ?_) rfl rfl (by kernel_rfl) (by kernel_rfl) (by kernel_rfl) (fun _ _ _ h => h) rfl ?_ hHeld ?_
          rotate_left
          · (intro wq hSq; skip; go_simp <;> first | with_reducible rfl | rfl)
          simp only [Act.put, List.setIfInBounds_toArray, List.set_cons_zero, List.set_cons_succ]
          refine take_one (i := 4) rfl (by kernel_rfl) (fun K hK => ?_)
          go_simp
          skip
          try go_wp2_with fail
          refine hK.out _ _ ?_ (fun hHeld => ?_)
          · trivial
          clear hK K
          try simp only [Act.put, List.setIfInBounds_toArray, List.set_cons_zero, List.set_cons_succ]
          refine take_one (i := 13) rfl (by kernel_rfl) (fun K hK => ?_)
          go_simp
          (refine (hcn w1.drew HP.out).mono ?_; rintro e w2 ⟨rfl, h9⟩; replace h9 := hide_it h9)
          try go_wp2_with fail
          refine hK.out _ _ ?_ (fun hHeld => ?_)
          · trivial
          clear hK K
          try simp only [Act.put, List.setIfInBounds_toArray, List.set_cons_zero, List.set_cons_succ]
          refine take_on (i := 14) (v := ?_) rfl rfl (by kernel_rfl) (by kernel_rfl) (by kernel_rfl) (fun _ _ _ h => h) rfl ?_ hHeld ?_
          rotate_left
          · (intro wq hSq; skip; go_simp <;> first | with_reducible rfl | rfl)
          simp only [Act.put, List.setIfInBounds_toArray, List.set_cons_zero, List.set_cons_succ]
          refine wpAnyH_done (by kernel_rfl) ?_ _
          go_wp2
          go_ret
          exact ⟨rfl, h9.out.drew⟩
    · have e1 : chgE c x y = 2 := by simp [chgE, ht, chgOk, hx]
      have e2 : chgA c x y = c := by simp [chgA, chgOk, hx]
      rw [decide_eq_false hx] at hh
      rw [e1, e2]
      have HP := hide_it hp
      clear e1 e2 ht hp hc hx
      go_enter Try.func12, Try.ntmps12
      go_wp2_with (refine hh.mono ?_; rintro e w1 ⟨rfl, hq⟩; have hq2 := hq.symm; subst hq2; clear hq)
      go_ret
      exact ⟨rfl, HP.out, Chg.refl _ _⟩

end Go.Proofs.Ytepkhohaahmebaa
