/- Accounts: what the document's calls answer. -/
import Derived.Test.YtepkhohaahmebaaQa2
namespace Go.Proofs.Ytepkhohaahmebaa
open Go.RowKit

set_option maxRecDepth 100000 in
set_option maxHeartbeats 400000 in
theorem rnew_any (a b : Int) (w : World) : Calls Try.prog 9 #[.int .i64 a, .int .i64 b] w fun e w' => e = .returned (.tuple #[valA (newA a b), .int .i64 (newE a b)]) ∧ Below w.heap.size w w' := by
  have hb1 : ∀ o1, Below w.heap.size w (w.alloc o1) := fun o1 => (Below.refl _ _).alloc (Nat.le_refl _) _
  by_cases h1 : 0 ≤ a
  · by_cases h2 : a ≤ 1048576
    · by_cases h3 : 0 ≤ b
      · by_cases h4 : b ≤ 32
        · skip
          have e1 : newA a b = ⟨true, a, b, 0, 0, 0⟩ := by simp [newA, isB, h1, h2, h3, h4]
          have e2 : newE a b = 0 := by simp [newE, isB, h1, h2, h3, h4]
          rw [e1, e2]
          clear e1 e2
          unfold valA
          go_enter Try.func9, Try.ntmps9
          go_wp2
          refine bodyPost_ret (v := .tuple #[.agg #[.bool true, .int .i64 a, .int .i64 b, .int .i64 0, .int .i64 0, .int .i64 0], .int .i64 0]) (by simp [results, Try.results9, go_sem]) rfl ?_
          exact ⟨rfl, hb1 _⟩
        · skip
          have e1 : newA a b = noAc := by simp [newA, isB, h4]
          have e2 : newE a b = 2 := by simp [newE, isB, h4]
          rw [e1, e2]
          clear e1 e2
          unfold valA noAc
          go_enter Try.func9, Try.ntmps9
          go_wp2
          refine bodyPost_ret (v := .tuple #[.agg #[.bool false, .int .i64 0, .int .i64 0, .int .i64 0, .int .i64 0, .int .i64 0], .int .i64 2]) (by simp [results, Try.results9, go_sem]) rfl ?_
          exact ⟨rfl, hb1 _⟩
      · skip
        have e1 : newA a b = noAc := by simp [newA, isB, h3]
        have e2 : newE a b = 2 := by simp [newE, isB, h3]
        rw [e1, e2]
        clear e1 e2
        unfold valA noAc
        go_enter Try.func9, Try.ntmps9
        go_wp2
        refine bodyPost_ret (v := .tuple #[.agg #[.bool false, .int .i64 0, .int .i64 0, .int .i64 0, .int .i64 0, .int .i64 0], .int .i64 2]) (by simp [results, Try.results9, go_sem]) rfl ?_
        exact ⟨rfl, hb1 _⟩
    · skip
      have e1 : newA a b = noAc := by simp [newA, isB, h2]
      have e2 : newE a b = 2 := by simp [newE, isB, h2]
      rw [e1, e2]
      clear e1 e2
      unfold valA noAc
      go_enter Try.func9, Try.ntmps9
      go_wp2
      refine bodyPost_ret (v := .tuple #[.agg #[.bool false, .int .i64 0, .int .i64 0, .int .i64 0, .int .i64 0, .int .i64 0], .int .i64 2]) (by simp [results, Try.results9, go_sem]) rfl ?_
      exact ⟨rfl, hb1 _⟩
  · skip
    have e1 : newA a b = noAc := by simp [newA, isB, h1]
    have e2 : newE a b = 2 := by simp [newE, isB, h1]
    rw [e1, e2]
    clear e1 e2
    unfold valA noAc
    go_enter Try.func9, Try.ntmps9
    go_wp2
    refine bodyPost_ret (v := .tuple #[.agg #[.bool false, .int .i64 0, .int .i64 0, .int .i64 0, .int .i64 0, .int .i64 0], .int .i64 2]) (by simp [results, Try.results9, go_sem]) rfl ?_
    exact ⟨rfl, hb1 _⟩

set_option maxRecDepth 100000 in
set_option maxHeartbeats 400000 in
theorem rbegin_any (c : Ac) (hc : AcOk c) (w : World) : Calls Try.prog 11 #[valA c] w fun e w' => e = .returned (.tuple #[valA (begA c), .int .i64 (begE c)]) ∧ Below w.heap.size w w' := by
  have hb2 : ∀ o1 o2, Below w.heap.size w ((w.alloc o1).alloc o2) := fun o1 o2 => ((Below.refl _ _).alloc (Nat.le_refl _) _).alloc (by simp) _
  have ho := hc.o
  have hm := hc.m
  have hq := hc.q
  have hl := hc.l
  have hp := hc.p
  have hlp := hc.lp
  obtain ⟨t, q, m, l, p, o⟩ := c
  clear hc
  simp only at ho hm hq hl hp hlp
  unfold valA
  cases t with
  | false =>
    have e1 : begA ⟨false, q, m, l, p, o⟩ = ⟨false, q, m, l, p, o⟩ := by simp [begA]
    have e2 : begE ⟨false, q, m, l, p, o⟩ = 1 := by simp [begE]
    rw [e1, e2]
    clear e1 e2 ho hm hq hl hp hlp
    go_enter Try.func11, Try.ntmps11
    go_wp2
    refine bodyPost_ret (v := .tuple #[.agg #[.bool false, .int .i64 q, .int .i64 m, .int .i64 l, .int .i64 p, .int .i64 o], .int .i64 1]) (by simp [results, Try.results11, go_sem]) rfl ?_
    exact ⟨rfl, hb2 _ _⟩
  | true =>
    by_cases h : o = m
    · have hx : (o == m) = true := by simp [h]
      have e1 : begA ⟨true, q, m, l, p, o⟩ = ⟨true, q, m, l, p, o⟩ := by simp [begA, h]
      have e2 : begE ⟨true, q, m, l, p, o⟩ = 151 := by simp [begE, h]
      rw [e1, e2]
      clear e1 e2 ho hm hq hl hp hlp h
      go_enter Try.func11, Try.ntmps11
      go_wp2
      refine bodyPost_ret (v := .tuple #[.agg #[.bool true, .int .i64 q, .int .i64 m, .int .i64 l, .int .i64 p, .int .i64 o], .int .i64 151]) (by simp [results, Try.results11, go_sem]) rfl ?_
      exact ⟨rfl, hb2 _ _⟩
    · have hlt : o < m := by omega
      have hx : (o == m) = false := by simp [h]
      have hw : IntKind.i64.wrap (o + 1) = o + 1 := i64_in (by omega) (by omega)
      have e1 : begA ⟨true, q, m, l, p, o⟩ = ⟨true, q, m, l, p, o + 1⟩ := by simp [begA, hlt]
      have e2 : begE ⟨true, q, m, l, p, o⟩ = 0 := by simp [begE, hlt]
      rw [e1, e2]
      clear e1 e2 ho hm hq hl hp hlp h hlt
      go_enter Try.func11, Try.ntmps11
      go_wp2
      refine bodyPost_ret (v := .tuple #[.agg #[.bool true, .int .i64 q, .int .i64 m, .int .i64 l, .int .i64 p, .int .i64 (o + 1)], .int .i64 0]) (by simp [results, Try.results11, go_sem]) rfl ?_
      exact ⟨rfl, hb2 _ _⟩

set_option maxRecDepth 100000 in
set_option maxHeartbeats 400000 in
theorem rcharge_any (c : Ac) (hc : AcOk c) (x y : Int) (w : World) : Calls Try.prog 13 #[valA c, .int .i64 x, .int .i64 y] w fun e w' => e = .returned (.tuple #[valA (chgA c x y), .int .i64 (chgE c x y)]) ∧ Below w.heap.size w w' := by
  have hb2 : ∀ o1 o2, Below w.heap.size w ((w.alloc o1).alloc o2) := fun o1 o2 => ((Below.refl _ _).alloc (Nat.le_refl _) _).alloc (by simp) _
  have ho := hc.o
  have hm := hc.m
  have hq := hc.q
  have hl := hc.l
  have hp := hc.p
  have hlp := hc.lp
  obtain ⟨t, q, m, l, p, o⟩ := c
  clear hc
  simp only at ho hm hq hl hp hlp
  unfold valA
  cases t with
  | false =>
    have e1 : chgA ⟨false, q, m, l, p, o⟩ x y = ⟨false, q, m, l, p, o⟩ := by simp [chgA]
    have e2 : chgE ⟨false, q, m, l, p, o⟩ x y = 1 := by simp [chgE]
    rw [e1, e2]
    clear e1 e2 ho hm hq hl hp hlp
    go_enter Try.func13, Try.ntmps13
    go_wp2
    refine bodyPost_ret (v := .tuple #[.agg #[.bool false, .int .i64 q, .int .i64 m, .int .i64 l, .int .i64 p, .int .i64 o], .int .i64 1]) (by simp [results, Try.results13, go_sem]) rfl ?_
    exact ⟨rfl, hb2 _ _⟩
  | true =>
    by_cases h1 : 0 ≤ x
    · by_cases h2 : 0 ≤ y
      · by_cases h3 : y ≤ 1048576
        · by_cases h4 : x ≤ p
          · have hw1 : IntKind.i64.wrap (l + p) = l + p := i64_in (by omega) (by omega)
            have hw2 : IntKind.i64.wrap (l + p - x) = l + p - x := i64_in (by omega) (by omega)
            have hw3 : IntKind.i64.wrap (l + p - x + y) = l + p - x + y := i64_in (by omega) (by omega)
            have hw4 : IntKind.i64.wrap (p - x) = p - x := i64_in (by omega) (by omega)
            have hw5 : IntKind.i64.wrap (p - x + y) = p - x + y := i64_in (by omega) (by omega)
            by_cases h5 : l + p - x + y ≤ q
            · have h6 : l + (p - x + y) ≤ q := by omega
              have e1 : chgA ⟨true, q, m, l, p, o⟩ x y = ⟨true, q, m, l, p - x + y, o⟩ := by simp [chgA, chgOk, chgFit, isB, h1, h2, h3, h4, h6]
              have e2 : chgE ⟨true, q, m, l, p, o⟩ x y = 0 := by simp [chgE, chgOk, chgFit, isB, h1, h2, h3, h4, h6]
              rw [e1, e2]
              clear e1 e2 ho hm hq hl hp hlp h6
              go_enter Try.func13, Try.ntmps13
              go_wp2
              refine bodyPost_ret (v := .tuple #[.agg #[.bool true, .int .i64 q, .int .i64 m, .int .i64 l, .int .i64 (p - x + y), .int .i64 o], .int .i64 0]) (by simp [results, Try.results13, go_sem]) rfl ?_
              exact ⟨rfl, hb2 _ _⟩
            · have h6 : ¬ l + (p - x + y) ≤ q := by omega
              have e1 : chgA ⟨true, q, m, l, p, o⟩ x y = ⟨true, q, m, l, p, o⟩ := by simp [chgA, chgOk, chgFit, isB, h1, h2, h3, h4, h6]
              have e2 : chgE ⟨true, q, m, l, p, o⟩ x y = 150 := by simp [chgE, chgOk, chgFit, isB, h1, h2, h3, h4, h6]
              rw [e1, e2]
              clear e1 e2 ho hm hq hl hp hlp h6
              go_enter Try.func13, Try.ntmps13
              go_wp2
              refine bodyPost_ret (v := .tuple #[.agg #[.bool true, .int .i64 q, .int .i64 m, .int .i64 l, .int .i64 p, .int .i64 o], .int .i64 150]) (by simp [results, Try.results13, go_sem]) rfl ?_
              exact ⟨rfl, hb2 _ _⟩
          · skip
            have e1 : chgA ⟨true, q, m, l, p, o⟩ x y = ⟨true, q, m, l, p, o⟩ := by simp [chgA, chgOk, h4]
            have e2 : chgE ⟨true, q, m, l, p, o⟩ x y = 2 := by simp [chgE, chgOk, h4]
            rw [e1, e2]
            clear e1 e2 ho hm hq hl hp hlp
            go_enter Try.func13, Try.ntmps13
            go_wp2
            refine bodyPost_ret (v := .tuple #[.agg #[.bool true, .int .i64 q, .int .i64 m, .int .i64 l, .int .i64 p, .int .i64 o], .int .i64 2]) (by simp [results, Try.results13, go_sem]) rfl ?_
            exact ⟨rfl, hb2 _ _⟩
        · skip
          have e1 : chgA ⟨true, q, m, l, p, o⟩ x y = ⟨true, q, m, l, p, o⟩ := by simp [chgA, chgOk, isB, h3]
          have e2 : chgE ⟨true, q, m, l, p, o⟩ x y = 2 := by simp [chgE, chgOk, isB, h3]
          rw [e1, e2]
          clear e1 e2 ho hm hq hl hp hlp
          go_enter Try.func13, Try.ntmps13
          go_wp2
          refine bodyPost_ret (v := .tuple #[.agg #[.bool true, .int .i64 q, .int .i64 m, .int .i64 l, .int .i64 p, .int .i64 o], .int .i64 2]) (by simp [results, Try.results13, go_sem]) rfl ?_
          exact ⟨rfl, hb2 _ _⟩
      · skip
        have e1 : chgA ⟨true, q, m, l, p, o⟩ x y = ⟨true, q, m, l, p, o⟩ := by simp [chgA, chgOk, isB, h2]
        have e2 : chgE ⟨true, q, m, l, p, o⟩ x y = 2 := by simp [chgE, chgOk, isB, h2]
        rw [e1, e2]
        clear e1 e2 ho hm hq hl hp hlp
        go_enter Try.func13, Try.ntmps13
        go_wp2
        refine bodyPost_ret (v := .tuple #[.agg #[.bool true, .int .i64 q, .int .i64 m, .int .i64 l, .int .i64 p, .int .i64 o], .int .i64 2]) (by simp [results, Try.results13, go_sem]) rfl ?_
        exact ⟨rfl, hb2 _ _⟩
    · skip
      have e1 : chgA ⟨true, q, m, l, p, o⟩ x y = ⟨true, q, m, l, p, o⟩ := by simp [chgA, chgOk, h1]
      have e2 : chgE ⟨true, q, m, l, p, o⟩ x y = 2 := by simp [chgE, chgOk, h1]
      rw [e1, e2]
      clear e1 e2 ho hm hq hl hp hlp
      go_enter Try.func13, Try.ntmps13
      go_wp2
      refine bodyPost_ret (v := .tuple #[.agg #[.bool true, .int .i64 q, .int .i64 m, .int .i64 l, .int .i64 p, .int .i64 o], .int .i64 2]) (by simp [results, Try.results13, go_sem]) rfl ?_
      exact ⟨rfl, hb2 _ _⟩

set_option maxRecDepth 100000 in
set_option maxHeartbeats 400000 in
theorem rend_any (c : Ac) (hc : AcOk c) (x : Int) (w : World) : Calls Try.prog 15 #[valA c, .int .i64 x] w fun e w' => e = .returned (.tuple #[valA (endA c x), .int .i64 (endE c x)]) ∧ Below w.heap.size w w' := by
  have hb2 : ∀ o1 o2, Below w.heap.size w ((w.alloc o1).alloc o2) := fun o1 o2 => ((Below.refl _ _).alloc (Nat.le_refl _) _).alloc (by simp) _
  have ho := hc.o
  have hm := hc.m
  have hq := hc.q
  have hl := hc.l
  have hp := hc.p
  have hlp := hc.lp
  obtain ⟨t, q, m, l, p, o⟩ := c
  clear hc
  simp only at ho hm hq hl hp hlp
  unfold valA
  cases t with
  | false =>
    have e1 : endA ⟨false, q, m, l, p, o⟩ x = ⟨false, q, m, l, p, o⟩ := by simp [endA]
    have e2 : endE ⟨false, q, m, l, p, o⟩ x = 1 := by simp [endE]
    rw [e1, e2]
    clear e1 e2 ho hm hq hl hp hlp
    go_enter Try.func15, Try.ntmps15
    go_wp2
    refine bodyPost_ret (v := .tuple #[.agg #[.bool false, .int .i64 q, .int .i64 m, .int .i64 l, .int .i64 p, .int .i64 o], .int .i64 1]) (by simp [results, Try.results15, go_sem]) rfl ?_
    exact ⟨rfl, hb2 _ _⟩
  | true =>
    by_cases h0 : o = 0
    · have hx : (o == 0) = true := by simp [h0]
      have e1 : endA ⟨true, q, m, l, p, o⟩ x = ⟨true, q, m, l, p, o⟩ := by simp [endA, endOk, h0]
      have e2 : endE ⟨true, q, m, l, p, o⟩ x = 2 := by simp [endE, endOk, h0]
      rw [e1, e2]
      clear e1 e2 ho hm hq hl hp hlp h0
      go_enter Try.func15, Try.ntmps15
      go_wp2
      refine bodyPost_ret (v := .tuple #[.agg #[.bool true, .int .i64 q, .int .i64 m, .int .i64 l, .int .i64 p, .int .i64 o], .int .i64 2]) (by simp [results, Try.results15, go_sem]) rfl ?_
      exact ⟨rfl, hb2 _ _⟩
    · have hx : (o == 0) = false := by simp [h0]
      by_cases h1 : 0 ≤ x
      · by_cases h2 : x ≤ p
        · have hw1 : IntKind.i64.wrap (o - 1) = o - 1 := i64_in (by omega) (by omega)
          have hw2 : IntKind.i64.wrap (p - x) = p - x := i64_in (by omega) (by omega)
          have e1 : endA ⟨true, q, m, l, p, o⟩ x = ⟨true, q, m, l, p - x, o - 1⟩ := by simp [endA, endOk, h0, h1, h2]
          have e2 : endE ⟨true, q, m, l, p, o⟩ x = 0 := by simp [endE, endOk, h0, h1, h2]
          rw [e1, e2]
          clear e1 e2 ho hm hq hl hp hlp h0
          go_enter Try.func15, Try.ntmps15
          go_wp2
          refine bodyPost_ret (v := .tuple #[.agg #[.bool true, .int .i64 q, .int .i64 m, .int .i64 l, .int .i64 (p - x), .int .i64 (o - 1)], .int .i64 0]) (by simp [results, Try.results15, go_sem]) rfl ?_
          exact ⟨rfl, hb2 _ _⟩
        · skip
          have e1 : endA ⟨true, q, m, l, p, o⟩ x = ⟨true, q, m, l, p, o⟩ := by simp [endA, endOk, h2]
          have e2 : endE ⟨true, q, m, l, p, o⟩ x = 2 := by simp [endE, endOk, h2]
          rw [e1, e2]
          clear e1 e2 ho hm hq hl hp hlp h0
          go_enter Try.func15, Try.ntmps15
          go_wp2
          refine bodyPost_ret (v := .tuple #[.agg #[.bool true, .int .i64 q, .int .i64 m, .int .i64 l, .int .i64 p, .int .i64 o], .int .i64 2]) (by simp [results, Try.results15, go_sem]) rfl ?_
          exact ⟨rfl, hb2 _ _⟩
      · skip
        have e1 : endA ⟨true, q, m, l, p, o⟩ x = ⟨true, q, m, l, p, o⟩ := by simp [endA, endOk, h1]
        have e2 : endE ⟨true, q, m, l, p, o⟩ x = 2 := by simp [endE, endOk, h1]
        rw [e1, e2]
        clear e1 e2 ho hm hq hl hp hlp h0
        go_enter Try.func15, Try.ntmps15
        go_wp2
        refine bodyPost_ret (v := .tuple #[.agg #[.bool true, .int .i64 q, .int .i64 m, .int .i64 l, .int .i64 p, .int .i64 o], .int .i64 2]) (by simp [results, Try.results15, go_sem]) rfl ?_
        exact ⟨rfl, hb2 _ _⟩

set_option maxRecDepth 100000 in
set_option maxHeartbeats 400000 in
theorem rsettle_any (c : Ac) (hc : AcOk c) (x : Int) (w : World) : Calls Try.prog 17 #[valA c, .int .i64 x] w fun e w' => e = .returned (.tuple #[valA (setA c x), .int .i64 (setE c x)]) ∧ Below w.heap.size w w' := by
  have hb2 : ∀ o1 o2, Below w.heap.size w ((w.alloc o1).alloc o2) := fun o1 o2 => ((Below.refl _ _).alloc (Nat.le_refl _) _).alloc (by simp) _
  have ho := hc.o
  have hm := hc.m
  have hq := hc.q
  have hl := hc.l
  have hp := hc.p
  have hlp := hc.lp
  obtain ⟨t, q, m, l, p, o⟩ := c
  clear hc
  simp only at ho hm hq hl hp hlp
  unfold valA
  cases t with
  | false =>
    have e1 : setA ⟨false, q, m, l, p, o⟩ x = ⟨false, q, m, l, p, o⟩ := by simp [setA]
    have e2 : setE ⟨false, q, m, l, p, o⟩ x = 1 := by simp [setE]
    rw [e1, e2]
    clear e1 e2 ho hm hq hl hp hlp
    go_enter Try.func17, Try.ntmps17
    go_wp2
    refine bodyPost_ret (v := .tuple #[.agg #[.bool false, .int .i64 q, .int .i64 m, .int .i64 l, .int .i64 p, .int .i64 o], .int .i64 1]) (by simp [results, Try.results17, go_sem]) rfl ?_
    exact ⟨rfl, hb2 _ _⟩
  | true =>
    by_cases h1 : 0 ≤ x
    · by_cases h2 : x ≤ 1048576
      · have hw1 : IntKind.i64.wrap (x + p) = x + p := i64_in (by omega) (by omega)
        by_cases h3 : x + p ≤ q
        · skip
          have e1 : setA ⟨true, q, m, l, p, o⟩ x = ⟨true, q, m, x, p, o⟩ := by simp [setA, isB, setFit, h1, h2, h3]
          have e2 : setE ⟨true, q, m, l, p, o⟩ x = 0 := by simp [setE, isB, setFit, h1, h2, h3]
          rw [e1, e2]
          clear e1 e2 ho hm hq hl hp hlp
          go_enter Try.func17, Try.ntmps17
          go_wp2
          refine bodyPost_ret (v := .tuple #[.agg #[.bool true, .int .i64 q, .int .i64 m, .int .i64 x, .int .i64 p, .int .i64 o], .int .i64 0]) (by simp [results, Try.results17, go_sem]) rfl ?_
          exact ⟨rfl, hb2 _ _⟩
        · skip
          have e1 : setA ⟨true, q, m, l, p, o⟩ x = ⟨true, q, m, l, p, o⟩ := by simp [setA, isB, setFit, h1, h2, h3]
          have e2 : setE ⟨true, q, m, l, p, o⟩ x = 150 := by simp [setE, isB, setFit, h1, h2, h3]
          rw [e1, e2]
          clear e1 e2 ho hm hq hl hp hlp
          go_enter Try.func17, Try.ntmps17
          go_wp2
          refine bodyPost_ret (v := .tuple #[.agg #[.bool true, .int .i64 q, .int .i64 m, .int .i64 l, .int .i64 p, .int .i64 o], .int .i64 150]) (by simp [results, Try.results17, go_sem]) rfl ?_
          exact ⟨rfl, hb2 _ _⟩
      · skip
        have e1 : setA ⟨true, q, m, l, p, o⟩ x = ⟨true, q, m, l, p, o⟩ := by simp [setA, isB, h2]
        have e2 : setE ⟨true, q, m, l, p, o⟩ x = 2 := by simp [setE, isB, h2]
        rw [e1, e2]
        clear e1 e2 ho hm hq hl hp hlp
        go_enter Try.func17, Try.ntmps17
        go_wp2
        refine bodyPost_ret (v := .tuple #[.agg #[.bool true, .int .i64 q, .int .i64 m, .int .i64 l, .int .i64 p, .int .i64 o], .int .i64 2]) (by simp [results, Try.results17, go_sem]) rfl ?_
        exact ⟨rfl, hb2 _ _⟩
    · skip
      have e1 : setA ⟨true, q, m, l, p, o⟩ x = ⟨true, q, m, l, p, o⟩ := by simp [setA, isB, h1]
      have e2 : setE ⟨true, q, m, l, p, o⟩ x = 2 := by simp [setE, isB, h1]
      rw [e1, e2]
      clear e1 e2 ho hm hq hl hp hlp
      go_enter Try.func17, Try.ntmps17
      go_wp2
      refine bodyPost_ret (v := .tuple #[.agg #[.bool true, .int .i64 q, .int .i64 m, .int .i64 l, .int .i64 p, .int .i64 o], .int .i64 2]) (by simp [results, Try.results17, go_sem]) rfl ?_
      exact ⟨rfl, hb2 _ _⟩

set_option maxRecDepth 100000 in
theorem rused_any (c : Ac) (hc : AcOk c) (w : World) : Calls Try.prog 19 #[valA c] w fun e w' => e = .returned (.int .i64 (c.l + c.p)) ∧ Below w.heap.size w w' := by
  have hw : IntKind.i64.wrap (c.l + c.p) = c.l + c.p := by have := hc.lp; have := hc.l; have := hc.p; have := hc.q; exact i64_in (by omega) (by omega)
  have hb1 : ∀ o1, Below w.heap.size w (w.alloc o1) := fun o1 => (Below.refl _ _).alloc (Nat.le_refl _) _
  unfold valA
  clear hc
  generalize c.l = l at *
  generalize c.p = p at *
  go_enter Try.func19, Try.ntmps19
  go_wp2
  go_ret
  exact ⟨rfl, hb1 _⟩

end Go.Proofs.Ytepkhohaahmebaa
