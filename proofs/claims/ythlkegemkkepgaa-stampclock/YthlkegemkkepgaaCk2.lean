/- Clocks: Next and Set of the program; the document's clocks. -/
import Derived.Test.YthlkegemkkepgaaCk1
namespace Go.Proofs.Ythlkegemkkepgaa
open Go.RowKit

/-- What Next and Set leave and answer. -/
def nextC (c : Ck) : Ck := if c.t then (if worn c then c else { c with n := c.n + 1 }) else c
def nextN (c : Ck) : Int := if c.t then (if worn c then 0 else c.n + 1) else 0
def nextE (c : Ck) : Int := if c.t then (if worn c then 120 else 0) else 1
def setC (c : Ck) (a : Int) : Ck := if c.t then (if 0 ≤ a ∧ a ≤ 4611686018427387904 then { c with n := a } else c) else c
def setE (c : Ck) (a : Int) : Int := if c.t then (if 0 ≤ a ∧ a ≤ 4611686018427387904 then 0 else 2) else 1
theorem nextC_ok {c : Ck} (h : CkOk c) : CkOk (nextC c) := by
  unfold nextC
  split
  · next ht =>
    split
    · exact h
    · next hw =>
      have h2 := h.low
      have hw2 : ¬ c.n = 4611686018427387904 := by simpa [worn] using hw
      exact ⟨fun e => by simp [ht] at e, by simp; omega, h.win⟩
  · exact h
theorem setC_ok {c : Ck} (h : CkOk c) (a : Int) : CkOk (setC c a) := by
  unfold setC
  split
  · next ht =>
    split
    · exact ⟨fun e => by simp [ht] at e, by simp; omega, h.win⟩
    · exact h
  · exact h
theorem nextC_t (c : Ck) : (nextC c).t = c.t := by unfold nextC; split <;> (try split) <;> rfl
theorem setC_t (c : Ck) (a : Int) : (setC c a).t = c.t := by unfold setC; split <;> (try split) <;> rfl

/-- What a call leaves of the clock in block p. -/
structure Ticked (w : World) (p : Nat) (c c' : Ck) (w' : World) : Prop where
  pk : Pk w' p c'
  chg : Chg (fun j => c.t = true ∧ j = p) w w'
theorem Pk.put {w : World} {p : Nat} {c : Ck} (h : Pk w p c) (n : Int) : Pk (w.setCell ⟨p, 0, none⟩ (.int .i64 n)) p { c with n := n } := fun t => by
  rw [heap_setCell_same w p 0 _ _ _ (h t)]; rfl

set_option maxRecDepth 100000 in
set_option maxHeartbeats 400000 in
theorem next_any (c : Ck) (hc : CkOk c) (p : Nat) (w : World) (hp : Pk w p c) : Calls Try.prog 10 #[ptrK c p] w fun e w' => e = .returned (.tuple #[.int .i64 (nextN c), .int .i64 (nextE c)]) ∧ Ticked w p c (nextC c) w' := by
  cases ht : c.t with
  | false =>
    have e1 : nextN c = 0 := by simp [nextN, ht]
    have e2 : nextE c = 1 := by simp [nextE, ht]
    have e3 : nextC c = c := by simp [nextC, ht]
    have e4 : ptrK c p = .pointer none := by simp [ptrK, ht]
    rw [e1, e2, e3, e4]
    clear e1 e2 e3 e4 ht
    go_enter Try.func10, Try.ntmps10
    go_wp2
    go_ret2
    exact ⟨rfl, hp, Chg.refl _ _⟩
  | true =>
    have hwn := worn_any c hc p w hp
    have e4 : ptrK c p = .pointer (some ⟨p, 0, none⟩) := by simp [ptrK, ht]
    cases hw : worn c with
    | true =>
      have e1 : nextN c = 0 := by simp [nextN, hw]
      have e2 : nextE c = 120 := by simp [nextE, ht, hw]
      have e3 : nextC c = c := by simp [nextC, hw]
      rw [hw] at hwn
      rw [e4] at hwn
      rw [e1, e2, e3, e4]
      clear e1 e2 e3 e4 ht hw
      go_enter Try.func10, Try.ntmps10
      go_wp2_with (refine hwn.mono ?_; rintro e w1 ⟨rfl, rfl⟩)
      go_ret2
      exact ⟨rfl, hp, Chg.refl _ _⟩
    | false =>
      have hw2 : ¬ c.n = 4611686018427387904 := by simpa [worn] using hw
      have e1 : nextN c = c.n + 1 := by simp [nextN, ht, hw]
      have e2 : nextE c = 0 := by simp [nextE, ht, hw]
      have e3 : nextC c = { c with n := c.n + 1 } := by simp [nextC, ht, hw]
      have hput := hide_it (hp.put (c.n + 1))
      have hlow := hc.low
      have hwr : IntKind.i64.wrap (c.n + 1) = c.n + 1 := i64_in (by omega) (by omega)
      obtain ⟨q1, q2, q3⟩ := hp.cells ht
      have hlt := hp.lt ht
      have HT := hide_it ht
      rw [hw] at hwn
      rw [e4] at hwn
      rw [e1, e2, e3, e4]
      clear e1 e2 e3 e4 hw hw2 hlow hp ht hc q2
      generalize c.n = n at *
      go_enter Try.func10, Try.ntmps10
      go_wp2_with (refine hwn.mono ?_; rintro e w1 ⟨rfl, rfl⟩)
      go_ret2
      exact ⟨rfl, hput.out, (Chg.refl _ _).setCell _ _ (fun _ => ⟨HT.out, rfl⟩)⟩

set_option maxRecDepth 100000 in
set_option maxHeartbeats 400000 in
theorem set_any (c : Ck) (p : Nat) (a : Int) (w : World) (hp : Pk w p c) : Calls Try.prog 14 #[ptrK c p, .int .i64 a] w fun e w' => e = .returned (.int .i64 (setE c a)) ∧ Ticked w p c (setC c a) w' := by
  have hs := isStamp_any a w
  cases ht : c.t with
  | false =>
    have e2 : setE c a = 1 := by simp [setE, ht]
    have e3 : setC c a = c := by simp [setC, ht]
    have e4 : ptrK c p = .pointer none := by simp [ptrK, ht]
    rw [e2, e3, e4]
    clear e2 e3 e4 ht
    go_enter Try.func14, Try.ntmps14
    go_wp2
    go_ret
    exact ⟨rfl, hp, Chg.refl _ _⟩
  | true =>
    have e4 : ptrK c p = .pointer (some ⟨p, 0, none⟩) := by simp [ptrK, ht]
    by_cases hr : 0 ≤ a ∧ a ≤ 4611686018427387904
    · have e2 : setE c a = 0 := by simp [setE, ht, hr]
      have e3 : setC c a = { c with n := a } := by simp [setC, ht, hr]
      have hput := hide_it (hp.put a)
      obtain ⟨q1, q2, q3⟩ := hp.cells ht
      have hlt := hp.lt ht
      have HT := hide_it ht
      rw [decide_eq_true hr] at hs
      rw [e2, e3, e4]
      clear e2 e3 e4 hr hp ht q2
      go_enter Try.func14, Try.ntmps14
      go_wp2_with (refine hs.mono ?_; rintro e w1 ⟨rfl, rfl⟩)
      go_ret
      exact ⟨rfl, hput.out, (Chg.refl _ _).setCell _ _ (fun _ => ⟨HT.out, rfl⟩)⟩
    · have e2 : setE c a = 2 := by simp [setE, ht, hr]
      have e3 : setC c a = c := by simp [setC, hr]
      rw [decide_eq_false hr] at hs
      rw [e2, e3, e4]
      clear e2 e3 e4 hr ht
      go_enter Try.func14, Try.ntmps14
      go_wp2_with (refine hs.mono ?_; rintro e w1 ⟨rfl, rfl⟩)
      go_ret
      exact ⟨rfl, hp, Chg.refl _ _⟩

/-! ### the document's -/

set_option maxRecDepth 100000 in
set_option maxHeartbeats 400000 in
theorem rnew_any (a b : Int) (w : World) : Calls Try.prog 7 #[.int .i64 a, .int .i64 b] w fun e w' => e = .returned (.tuple #[valK (newC a b), .int .i64 (newE a b)]) ∧ Below w.heap.size w w' := by
  by_cases h : fine a b
  · have e1 : newC a b = ⟨true, a, b⟩ := by simp [newC, h]
    have e2 : newE a b = 0 := by simp [newE, h]
    obtain ⟨h1, h2, h3, h4⟩ := h
    rw [e1, e2]
    clear e1 e2
    unfold valK
    go_enter Try.func7, Try.ntmps7
    go_wp2
    refine bodyPost_ret (v := .tuple #[.agg #[.bool true, .int .i64 a, .int .i64 b], .int .i64 0]) (by simp [results, Try.results7, go_sem]) rfl ?_
    exact ⟨rfl, (Below.refl _ _).alloc (Nat.le_refl _) _⟩
  · have e1 : newC a b = noCk := by simp [newC, h]
    have e2 : newE a b = 2 := by simp [newE, h]
    rw [e1, e2]
    clear e1 e2
    unfold valK noCk
    by_cases h1 : a < 0
    · clear h
      go_enter Try.func7, Try.ntmps7
      go_wp2
      refine bodyPost_ret (v := .tuple #[.agg #[.bool false, .int .i64 0, .int .i64 0], .int .i64 2]) (by simp [results, Try.results7, go_sem]) rfl ?_
      exact ⟨rfl, (Below.refl _ _).alloc (Nat.le_refl _) _⟩
    · by_cases h2 : 4611686018427387904 < a
      · clear h
        go_enter Try.func7, Try.ntmps7
        go_wp2
        refine bodyPost_ret (v := .tuple #[.agg #[.bool false, .int .i64 0, .int .i64 0], .int .i64 2]) (by simp [results, Try.results7, go_sem]) rfl ?_
        exact ⟨rfl, (Below.refl _ _).alloc (Nat.le_refl _) _⟩
      · by_cases h3 : b < 0
        · clear h
          go_enter Try.func7, Try.ntmps7
          go_wp2
          refine bodyPost_ret (v := .tuple #[.agg #[.bool false, .int .i64 0, .int .i64 0], .int .i64 2]) (by simp [results, Try.results7, go_sem]) rfl ?_
          exact ⟨rfl, (Below.refl _ _).alloc (Nat.le_refl _) _⟩
        · have h4 : 1048576 < b := by unfold fine at h; omega
          clear h
          go_enter Try.func7, Try.ntmps7
          go_wp2
          refine bodyPost_ret (v := .tuple #[.agg #[.bool false, .int .i64 0, .int .i64 0], .int .i64 2]) (by simp [results, Try.results7, go_sem]) rfl ?_
          exact ⟨rfl, (Below.refl _ _).alloc (Nat.le_refl _) _⟩

set_option maxRecDepth 100000 in
theorem rnow_any (c : Ck) (w : World) : Calls Try.prog 9 #[valK c] w fun e w' => e = .returned (.int .i64 c.n) ∧ Below w.heap.size w w' := by
  unfold valK
  go_enter Try.func9, Try.ntmps9
  go_wp2
  go_ret
  exact ⟨rfl, (Below.refl _ _).alloc (Nat.le_refl _) _⟩

set_option maxRecDepth 100000 in
theorem rhorizon_any (c : Ck) (hc : CkOk c) (w : World) : Calls Try.prog 17 #[valK c] w fun e w' => e = .returned (.int .i64 (c.n - c.k)) ∧ Below w.heap.size w w' := by
  have hw : IntKind.i64.wrap (c.n - c.k) = c.n - c.k := by have := hc.low; have := hc.win; exact i64_in (by omega) (by omega)
  unfold valK
  clear hc
  go_enter Try.func17, Try.ntmps17
  go_wp2
  go_ret
  exact ⟨rfl, (Below.refl _ _).alloc (Nat.le_refl _) _⟩

theorem worn_gone {c : Ck} (hc : CkOk c) (ht : c.t = false) : worn c = false := by
  unfold worn; rw [(hc.gone ht).1]; rfl
set_option maxRecDepth 100000 in
theorem rworn_any (c : Ck) (hc : CkOk c) (w : World) : Calls Try.prog 13 #[valK c] w fun e w' => e = .returned (.bool (worn c)) ∧ Below w.heap.size w w' := by
  cases ht : c.t with
  | true =>
    unfold valK worn
    rw [ht]
    clear ht hc
    generalize c.n = n
    generalize c.k = k
    go_enter Try.func13, Try.ntmps13
    go_wp2
    go_ret
    exact ⟨rfl, (Below.refl _ _).alloc (Nat.le_refl _) _⟩
  | false =>
    rw [worn_gone hc ht]
    unfold valK
    rw [ht]
    clear ht hc
    go_enter Try.func13, Try.ntmps13
    go_wp2
    go_ret
    exact ⟨rfl, (Below.refl _ _).alloc (Nat.le_refl _) _⟩

set_option maxRecDepth 100000 in
set_option maxHeartbeats 400000 in
theorem rnext_any (c : Ck) (hc : CkOk c) (w : World) : Calls Try.prog 11 #[valK c] w fun e w' => e = .returned (.tuple #[valK (nextC c), .int .i64 (nextN c), .int .i64 (nextE c)]) ∧ Below w.heap.size w w' := by
  have hb2 : ∀ o1 o2, Below w.heap.size w ((w.alloc o1).alloc o2) := fun o1 o2 => ((Below.refl _ _).alloc (Nat.le_refl _) _).alloc (by simp) _
  cases ht : c.t with
  | false =>
    have e1 : nextN c = 0 := by simp [nextN, ht]
    have e2 : nextE c = 1 := by simp [nextE, ht]
    have e3 : nextC c = c := by simp [nextC, ht]
    rw [e1, e2, e3]
    unfold valK
    rw [ht]
    clear e1 e2 e3 ht hc
    go_enter Try.func11, Try.ntmps11
    go_wp2
    refine bodyPost_ret (v := .tuple #[.agg #[.bool false, .int .i64 c.n, .int .i64 c.k], .int .i64 0, .int .i64 1]) (by simp [results, Try.results11, go_sem]) rfl ?_
    exact ⟨rfl, hb2 _ _⟩
  | true =>
    cases hw : worn c with
    | true =>
      have hn : c.n = 4611686018427387904 := by simpa [worn] using hw
      have e1 : nextN c = 0 := by simp [nextN, hw]
      have e2 : nextE c = 120 := by simp [nextE, ht, hw]
      have e3 : nextC c = c := by simp [nextC, hw]
      rw [e1, e2, e3]
      unfold valK
      rw [ht, hn]
      clear e1 e2 e3 ht hc hw hn
      go_enter Try.func11, Try.ntmps11
      go_wp2
      refine bodyPost_ret (v := .tuple #[.agg #[.bool true, .int .i64 4611686018427387904, .int .i64 c.k], .int .i64 0, .int .i64 120]) (by simp [results, Try.results11, go_sem]) rfl ?_
      exact ⟨rfl, hb2 _ _⟩
    | false =>
      have e1 : nextN c = c.n + 1 := by simp [nextN, ht, hw]
      have e2 : nextE c = 0 := by simp [nextE, ht, hw]
      have e3 : nextC c = { c with n := c.n + 1 } := by simp [nextC, ht, hw]
      have hw2 : (c.n == 4611686018427387904) = false := hw
      have hlow := hc.low
      have hne : ¬ c.n = 4611686018427387904 := by simpa using hw2
      have hwr : IntKind.i64.wrap (c.n + 1) = c.n + 1 := i64_in (by omega) (by omega)
      rw [e1, e2, e3]
      unfold valK
      rw [ht]
      clear e1 e2 e3 ht hc hw hlow hne
      generalize c.n = n at *
      generalize c.k = k at *
      go_enter Try.func11, Try.ntmps11
      go_wp2
      go_region
      go_wp2
      refine bodyPost_ret (v := .tuple #[.agg #[.bool true, .int .i64 (n + 1), .int .i64 k], .int .i64 (n + 1), .int .i64 0]) (by simp [results, Try.results11, go_sem]) rfl ?_
      exact ⟨rfl, below_drewN (hb2 _ _) _⟩

set_option maxRecDepth 100000 in
set_option maxHeartbeats 400000 in
theorem rset_any (c : Ck) (a : Int) (w : World) : Calls Try.prog 15 #[valK c, .int .i64 a] w fun e w' => e = .returned (.tuple #[valK (setC c a), .int .i64 (setE c a)]) ∧ Below w.heap.size w w' := by
  have hb2 : ∀ o1 o2, Below w.heap.size w ((w.alloc o1).alloc o2) := fun o1 o2 => ((Below.refl _ _).alloc (Nat.le_refl _) _).alloc (by simp) _
  cases ht : c.t with
  | false =>
    have e2 : setE c a = 1 := by simp [setE, ht]
    have e3 : setC c a = c := by simp [setC, ht]
    rw [e2, e3]
    unfold valK
    rw [ht]
    clear e2 e3 ht
    go_enter Try.func15, Try.ntmps15
    go_wp2
    refine bodyPost_ret (v := .tuple #[.agg #[.bool false, .int .i64 c.n, .int .i64 c.k], .int .i64 1]) (by simp [results, Try.results15, go_sem]) rfl ?_
    exact ⟨rfl, hb2 _ _⟩
  | true =>
    by_cases hr : 0 ≤ a ∧ a ≤ 4611686018427387904
    · have e2 : setE c a = 0 := by simp [setE, ht, hr]
      have e3 : setC c a = { c with n := a } := by simp [setC, ht, hr]
      obtain ⟨h1, h2⟩ := hr
      rw [e2, e3]
      unfold valK
      rw [ht]
      clear e2 e3 ht
      generalize c.n = n at *
      generalize c.k = k at *
      go_enter Try.func15, Try.ntmps15
      go_wp2
      refine bodyPost_ret (v := .tuple #[.agg #[.bool true, .int .i64 a, .int .i64 k], .int .i64 0]) (by simp [results, Try.results15, go_sem]) rfl ?_
      exact ⟨rfl, hb2 _ _⟩
    · have e2 : setE c a = 2 := by simp [setE, ht, hr]
      have e3 : setC c a = c := by simp [setC, hr]
      rw [e2, e3]
      unfold valK
      rw [ht]
      clear e2 e3 ht
      by_cases h1 : a < 0
      · clear hr
        go_enter Try.func15, Try.ntmps15
        go_wp2
        refine bodyPost_ret (v := .tuple #[.agg #[.bool true, .int .i64 c.n, .int .i64 c.k], .int .i64 2]) (by simp [results, Try.results15, go_sem]) rfl ?_
        exact ⟨rfl, hb2 _ _⟩
      · have h2 : 4611686018427387904 < a := by omega
        clear hr
        go_enter Try.func15, Try.ntmps15
        go_wp2
        refine bodyPost_ret (v := .tuple #[.agg #[.bool true, .int .i64 c.n, .int .i64 c.k], .int .i64 2]) (by simp [results, Try.results15, go_sem]) rfl ?_
        exact ⟨rfl, hb2 _ _⟩

end Go.Proofs.Ythlkegemkkepgaa
