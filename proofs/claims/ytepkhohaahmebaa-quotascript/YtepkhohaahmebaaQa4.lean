/- Accounts: the law's head, its maker, one call. -/
import Derived.Test.YtepkhohaahmebaaQa2
import Derived.Test.YtepkhohaahmebaaOpenOpq
namespace Go.Proofs.Ytepkhohaahmebaa
open Go.RowKit

theorem Went.below {w w' : World} {b B : Nat} {c c' : Ac} (h : Went w b c c' w') (hb : B ≤ b) (hB : B ≤ w.heap.size) : Below B w w' := h.chg.below (fun k hk => by rw [hk.2]; exact hb) hB
set_option maxRecDepth 100000 in
set_option maxHeartbeats 1000000 in
theorem head_any (w : World) : Calls Try.prog 7 #[] w fun e w' => e = .returned (.bool true) ∧ Below w.heap.size w w' := by
  have hn := new_any 100 2 0 0 0 w
  rw [show newA 100 2 = ⟨true, 100, 2, 0, 0, 0⟩ from rfl, show newE 100 2 = 0 from rfl] at hn
  have o0 : AcOk ⟨true, 100, 2, 0, 0, 0⟩ := newA_ok 100 2
  have o1 : AcOk ⟨true, 100, 2, 0, 0, 1⟩ := begA_ok o0
  have o2 : AcOk ⟨true, 100, 2, 0, 60, 1⟩ := chgA_ok o1 0 60
  go_enter Try.func7, Try.ntmps7
  go_wp2_with fail
  refine hn.mono ?_
  rintro e w1 ⟨rfl, p1, b1⟩
  clear hn
  have hbb : w.heap.size ≤ w.heap.size + 1 := by omega
  generalize w.heap.size + 1 = b at *
  have h2 := begin_any _ o0 b w1 p1
  rw [show begE ⟨true, 100, 2, 0, 0, 0⟩ = 0 from rfl, show begA ⟨true, 100, 2, 0, 0, 0⟩ = ⟨true, 100, 2, 0, 0, 1⟩ from rfl] at h2
  have s1 := b1.size
  unfold ptrA at *
  rw [if_pos rfl] at *
  go_wp2_with fail
  refine h2.mono ?_
  rintro e w2 ⟨rfl, z2⟩
  have h3 := charge_any _ o1 b w2 z2.pk 0 60
  rw [show chgE ⟨true, 100, 2, 0, 0, 1⟩ 0 60 = 0 from rfl, show chgA ⟨true, 100, 2, 0, 0, 1⟩ 0 60 = ⟨true, 100, 2, 0, 60, 1⟩ from rfl] at h3
  have b2 := b1.trans (z2.below hbb s1)
  have s2 := b2.size
  clear h2 z2 b1 s1 p1
  unfold ptrA at *
  rw [if_pos rfl] at *
  go_wp2_with fail
  refine h3.mono ?_
  rintro e w3 ⟨rfl, z3⟩
  have h4 := charge_any _ o2 b w3 z3.pk 0 41
  rw [show chgE ⟨true, 100, 2, 0, 60, 1⟩ 0 41 = 150 from rfl, show chgA ⟨true, 100, 2, 0, 60, 1⟩ 0 41 = ⟨true, 100, 2, 0, 60, 1⟩ from rfl] at h4
  have b3 := b2.trans (z3.below hbb s2)
  have s3 := b3.size
  clear h3 z3 b2 s2
  unfold ptrA at *
  rw [if_pos rfl] at *
  go_wp2_with fail
  refine h4.mono ?_
  rintro e w4 ⟨rfl, z4⟩
  have h5 := used_any _ o2 b w4 z4.pk
  have p4 := z4.pk
  have b4 := b3.trans (z4.below hbb s3)
  have s4 := b4.size
  clear h4 z4 b3 s3
  unfold ptrA at *
  rw [if_pos rfl] at *
  simp only [Int.zero_add] at h5
  go_wp2_with fail
  refine h5.mono ?_
  rintro e w5 ⟨rfl, z5⟩
  have h6 := open_any _ o2 b w5 (p4.below z5)
  have b5 := hide_it (b4.trans (z5.mono s4))
  clear h5 z5 p4 b4 s4
  unfold ptrA at *
  rw [if_pos rfl] at *
  simp only at h6
  go_wp2_with fail
  refine h6.mono ?_
  rintro e w6 ⟨rfl, hq⟩
  have hq2 := hq.symm
  subst hq2
  clear hq h6
  go_wp2
  go_ret
  exact ⟨rfl, b5.out⟩

/-- What one call leaves, and what it answers (1: none was made). -/
def stepA (k x y : Int) (c : Ac) : Ac := if k = 1 then begA c else if k = 2 then chgA c x y else if k = 3 then endA c x else if k = 4 then setA c x else c
def stepE (k x y : Int) (c : Ac) : Int := if k = 1 then begE c else if k = 2 then chgE c x y else if k = 3 then endE c x else if k = 4 then setE c x else 1
theorem stepA_ok {c : Ac} (h : AcOk c) (k x y : Int) : AcOk (stepA k x y c) := by
  unfold stepA; repeat' split
  · exact begA_ok h
  · exact chgA_ok h _ _
  · exact endA_ok h _
  · exact setA_ok h _
  · exact h
theorem stepA_t (k x y : Int) (c : Ac) : (stepA k x y c).t = c.t := by
  unfold stepA; repeat' split
  · exact begA_t c
  · exact chgA_t c _ _
  · exact endA_t c _
  · exact setA_t c _
  · rfl
theorem stepA_q (k x y : Int) (c : Ac) : (stepA k x y c).q = c.q ∧ (stepA k x y c).m = c.m := by
  unfold stepA begA chgA endA setA; repeat' split
  all_goals exact ⟨rfl, rfl⟩
/-- What is refused changes nothing. -/
theorem stepA_no (k x y : Int) (c : Ac) (h : ¬ stepE k x y c = 0) : stepA k x y c = c := by
  unfold stepE at h
  unfold stepA
  split at h
  · next e => rw [if_pos e]; unfold begA; unfold begE at h; split
              · next h2 => simp only [Bool.and_eq_true, decide_eq_true_eq] at h2; simp [h2] at h
              · rfl
  · next e1 =>
    rw [if_neg e1]
    split at h
    · next e => rw [if_pos e]; unfold chgA; unfold chgE at h; split
                · next h2 => simp only [Bool.and_eq_true] at h2; simp [h2] at h
                · rfl
    · next e2 =>
      rw [if_neg e2]
      split at h
      · next e => rw [if_pos e]; unfold endA; unfold endE at h; split
                  · next h2 => simp only [Bool.and_eq_true] at h2; simp [h2] at h
                  · rfl
      · next e3 =>
        rw [if_neg e3]
        split at h
        · next e => rw [if_pos e]; unfold setA; unfold setE at h; split
                    · next h2 => simp only [Bool.and_eq_true] at h2; simp [h2] at h
                    · rfl
        · next e4 => rw [if_neg e4]


set_option maxRecDepth 100000 in
set_option maxHeartbeats 400000 in
theorem made_any (o : Opq) (w : World) : Calls Try.prog 8 #[.agg #[.int .i64 o.k, .int .i64 o.i, .int .i64 o.a, .int .i64 o.b, .int .i64 o.c]] w fun e w' => ∃ b, e = .returned (.tuple #[ptrA (newA o.a o.b) b, .int .i64 (newE o.a o.b)]) ∧ w.heap.size ≤ b ∧ Pa w' b (newA o.a o.b) ∧ Below w.heap.size w w' := by
  have hn := new_any o.a o.b o.c o.c o.c (w.alloc (.cells #[.int .i64 o.k, .int .i64 o.i, .int .i64 o.a, .int .i64 o.b, .int .i64 o.c] 30))
  have h0 : Below w.heap.size w (w.alloc (.cells #[.int .i64 o.k, .int .i64 o.i, .int .i64 o.a, .int .i64 o.b, .int .i64 o.c] 30)) := (Below.refl _ _).alloc (Nat.le_refl _) _
  have hz : (w.alloc (.cells #[.int .i64 o.k, .int .i64 o.i, .int .i64 o.a, .int .i64 o.b, .int .i64 o.c] 30)).heap.size = w.heap.size + 1 := by simp
  have H0 := hide_it h0
  have HZ := hide_it hz
  generalize newA o.a o.b = c at *
  generalize newE o.a o.b = E at *
  clear h0 hz
  go_enter Try.func8, Try.ntmps8
  go_wp2_with fail
  refine hn.mono ?_
  rintro e w1 ⟨rfl, p1, b1⟩
  clear hn
  rw [HZ.out] at p1 b1 ⊢
  have P1 := hide_it p1
  have B1 := hide_it b1
  clear p1 b1
  go_wp2
  go_ret2
  exact ⟨_, rfl, by omega, P1.out, H0.out.trans (B1.out.mono (by omega))⟩



set_option maxRecDepth 100000 in
set_option maxHeartbeats 1000000 in
theorem one_any (c : Ac) (hc : AcOk c) (b : Nat) (k i x y z : Int) (w : World) (hp : Pa w b c) : Calls Try.prog 23 #[ptrA c b, .agg #[.int .i64 k, .int .i64 i, .int .i64 x, .int .i64 y, .int .i64 z]] w fun e w' => e = .returned (.bool (stepE k x y c == 0)) ∧ Went w b c (stepA k x y c) w' := by
  obtain ⟨W, hW⟩ : ∃ W, W = w.alloc (.cells #[.int .i64 k, .int .i64 i, .int .i64 x, .int .i64 y, .int .i64 z] 30) := ⟨_, rfl⟩
  have hB : Below w.heap.size w W := by rw [hW]; exact (Below.refl _ _).alloc (Nat.le_refl _) _
  have hP : Pa W b c := hp.below hB
  have hcc : W.heap[w.heap.size]? = some (.cells #[.int .i64 k, .int .i64 i, .int .i64 x, .int .i64 y, .int .i64 z] 30 (0, 0)) := by rw [hW]; exact heap_alloc_new w _
  have q2 : W.cell? ⟨w.heap.size, 2, none⟩ = some (.int .i64 x) := cell_of_row _ _ _ _ _ _ hcc
  have q3 : W.cell? ⟨w.heap.size, 3, none⟩ = some (.int .i64 y) := cell_of_row _ _ _ _ _ _ hcc
  have hfin : ∀ (c' : Ac) (w2 : World), Went W b c c' w2 → Went w b c c' w2 := fun c' w2 h => ⟨h.pk, (Chg.new hB).trans h.chg (fun j _ t => t)⟩
  have HF := hide_it hfin
  have HP := hide_it hp
  have HB := hide_it hB
  clear hfin hp hcc hB
  by_cases k1 : k = 1
  · subst k1
    have h1 := begin_any c hc b W hP
    rw [show stepE 1 x y c = begE c from rfl, show stepA 1 x y c = begA c from rfl]
    generalize begE c = E at *
    generalize begA c = C at *
    clear hP
    go_enter Try.func23, Try.ntmps23
    go_wp2_with fail
    rw [← hW]
    refine h1.mono ?_
    rintro e w1 ⟨rfl, z1⟩
    clear h1 q2 q3 hW
    replace z1 := hide_it z1
    go_wp2
    go_ret
    exact ⟨rfl, HF.out _ _ z1.out⟩
  · by_cases k2 : k = 2
    · subst k2
      have h1 := charge_any c hc b W hP x y
      rw [show stepE 2 x y c = chgE c x y from rfl, show stepA 2 x y c = chgA c x y from rfl]
      generalize chgE c x y = E at *
      generalize chgA c x y = C at *
      clear hP k1
      go_enter Try.func23, Try.ntmps23
      go_wp2_with fail
      rw [← hW]
      refine h1.mono ?_
      rintro e w1 ⟨rfl, z1⟩
      clear h1 q2 q3 hW
      replace z1 := hide_it z1
      go_wp2
      go_ret
      exact ⟨rfl, HF.out _ _ z1.out⟩
    · by_cases k3 : k = 3
      · subst k3
        have h1 := end_any c hc b W hP x
        rw [show stepE 3 x y c = endE c x from rfl, show stepA 3 x y c = endA c x from rfl]
        generalize endE c x = E at *
        generalize endA c x = C at *
        clear hP k1 k2
        go_enter Try.func23, Try.ntmps23
        go_wp2_with fail
        rw [← hW]
        refine h1.mono ?_
        rintro e w1 ⟨rfl, z1⟩
        clear h1 q2 q3 hW
        replace z1 := hide_it z1
        go_wp2
        go_ret
        exact ⟨rfl, HF.out _ _ z1.out⟩
      · by_cases k4 : k = 4
        · subst k4
          have h1 := settle_any c hc b W hP x
          rw [show stepE 4 x y c = setE c x from rfl, show stepA 4 x y c = setA c x from rfl]
          generalize setE c x = E at *
          generalize setA c x = C at *
          clear hP k1 k2 k3
          go_enter Try.func23, Try.ntmps23
          go_wp2_with fail
          rw [← hW]
          refine h1.mono ?_
          rintro e w1 ⟨rfl, z1⟩
          clear h1 q2 q3 hW
          replace z1 := hide_it z1
          go_wp2
          go_ret
          exact ⟨rfl, HF.out _ _ z1.out⟩
        · rw [show stepE k x y c = 1 by simp [stepE, k1, k2, k3, k4], show stepA k x y c = c by simp [stepA, k1, k2, k3, k4]]
          have r1 : (k == 1) = false := by simp [k1]
          have r2 : (k == 2) = false := by simp [k2]
          have r3 : (k == 3) = false := by simp [k3]
          have r4 : (k == 4) = false := by simp [k4]
          clear hP k1 k2 k3 k4 q2 q3 hW
          go_enter Try.func23, Try.ntmps23
          go_wp2
          go_ret
          exact ⟨rfl, HP.out.below ((Below.refl _ _).alloc (Nat.le_refl _) _), Chg.new ((Below.refl _ _).alloc (Nat.le_refl _) _)⟩


end Go.Proofs.Ytepkhohaahmebaa
