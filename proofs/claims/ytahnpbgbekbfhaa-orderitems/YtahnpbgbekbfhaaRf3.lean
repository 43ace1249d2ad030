/- The document's answers: two items compared, by their kinds. -/
import Derived.Test.YtahnpbgbekbfhaaRf2
import Derived.Test.YtahnpbgbekbfhaaAl1
namespace Go.Proofs.Ytahnpbgbekbfhaa
open Go.RowKit

/-- The world with two of the document's items in boxes. -/
abbrev twoD (w : World) (x y : It) : World := (w.alloc (.cells #[.int .i64 x.k, .bool x.b, .int .i64 x.n, .int .u64 (x.f : Int), .int .u64 (x.r : Int), .int .u64 (x.i : Int), .string x.t] 32)).alloc (.cells #[.int .i64 y.k, .bool y.b, .int .i64 y.n, .int .u64 (y.f : Int), .int .u64 (y.r : Int), .int .u64 (y.i : Int), .string y.t] 32)
theorem DocB.new (w : World) (x : It) : DocB (w.alloc (.cells #[.int .i64 x.k, .bool x.b, .int .i64 x.n, .int .u64 (x.f : Int), .int .u64 (x.r : Int), .int .u64 (x.i : Int), .string x.t] 32)) w.heap.size x := heap_alloc_new w _
theorem twoD_fst (w : World) (x y : It) : DocB (twoD w x y) w.heap.size x := (DocB.new w x).below ((Below.refl _ _).alloc (Nat.le_refl _) _) (by simp)
theorem twoD_snd (w : World) (x y : It) : DocB (twoD w x y) (w.heap.size + 1) y := heap_alloc2_new w _ _
theorem twoD_below (w : World) (x y : It) : Below w.heap.size w (twoD w x y) := ((Below.refl _ _).alloc (Nat.le_refl _) _).alloc (by simp) _

set_option maxRecDepth 100000 in
set_option maxHeartbeats 2000000 in
theorem rcompare_unlike (x y : It) (w : World) (hk : x.k ≠ y.k) :
    Calls Try.prog 19 #[valR x, valR y] w fun e w' => e = .returned (.int .i64 (cmpI x.k y.k)) ∧ Below w.heap.size w w' := by
  obtain ⟨k, b, n, f, r, i, t⟩ := x
  obtain ⟨k', b', n', f', r', i', t'⟩ := y
  have B1 := twoD_fst w ⟨k, b, n, f, r, i, t⟩ ⟨k', b', n', f', r', i', t'⟩
  have B2 := twoD_snd w ⟨k, b, n, f, r, i, t⟩ ⟨k', b', n', f', r', i', t'⟩
  have b2 := twoD_below w ⟨k, b, n, f, r, i, t⟩ ⟨k', b', n', f', r', i', t'⟩
  unfold twoD at B1 B2 b2
  simp only at B1 B2 b2 hk
  have hk2 : (k == k') = false := by simpa using hk
  clear B1 B2
  go_enter Try.func19, Try.ntmps19
  go_wp2_with (go_at_call 42; refine (rints_any _ _ _).mono ?_; rintro e w' ⟨rfl, hq⟩; have hq2 := hq.symm; subst hq2; clear hq)
  go_ret
  exact ⟨rfl, b2⟩

set_option maxRecDepth 100000 in
set_option maxHeartbeats 2000000 in
theorem rcompare_not1 (x y : It) (w : World) (hx : ItOk x) (hk : x.k = y.k) (mx : may x = false) :
    Calls Try.prog 19 #[valR x, valR y] w fun e w' => e = .returned (.int .i64 (cmpI x.k y.k)) ∧ Below w.heap.size w w' := by
  have hmx := fun w => rcheck_any x w hx
  rw [mx] at hmx
  simp only [Bool.false_eq_true, if_false] at hmx
  clear mx hx
  obtain ⟨k, b, n, f, r, i, t⟩ := x
  obtain ⟨k', b', n', f', r', i', t'⟩ := y
  have B1 := twoD_fst w ⟨k, b, n, f, r, i, t⟩ ⟨k', b', n', f', r', i', t'⟩
  have B2 := twoD_snd w ⟨k, b, n, f, r, i, t⟩ ⟨k', b', n', f', r', i', t'⟩
  have b2 := twoD_below w ⟨k, b, n, f, r, i, t⟩ ⟨k', b', n', f', r', i', t'⟩
  unfold twoD at B1 B2 b2
  simp only at B1 B2 b2 hk
  subst hk
  go_enter Try.func19, Try.ntmps19
  go_wp2_with fail
  refine (hmx _).mono ?_
  rintro e w1 ⟨rfl, hb⟩
  have hbw : Below w.heap.size w w1 := b2.trans (hb.mono (by simp; omega))
  have B1' := B1.below hb (by simp; omega)
  have B2' := B2.below hb (by simp)
  clear B1 B2 b2 hb hmx
  obtain ⟨c0, c1, c2, c3, c4, c5, c6⟩ := B1'.cells
  obtain ⟨d0, d1, d2, d3, d4, d5, d6⟩ := B2'.cells
  simp only at c0 c1 c2 c3 c4 c5 c6 d0 d1 d2 d3 d4 d5 d6
  clear B1' B2'
  go_wp2_with (go_at_call 42; refine (rints_any _ _ _).mono ?_; rintro e w' ⟨rfl, hq⟩; have hq2 := hq.symm; subst hq2; clear hq)
  go_ret
  exact ⟨rfl, hbw⟩

set_option maxRecDepth 100000 in
set_option maxHeartbeats 2000000 in
theorem rcompare_not2 (x y : It) (w : World) (hx : ItOk x) (hy : ItOk y) (hk : x.k = y.k) (mx : may x = true) (my : may y = false) :
    Calls Try.prog 19 #[valR x, valR y] w fun e w' => e = .returned (.int .i64 (cmpI x.k y.k)) ∧ Below w.heap.size w w' := by
  have hmx := fun w => rcheck_any x w hx
  have hmy := fun w => rcheck_any y w hy
  rw [mx] at hmx
  simp only [if_true] at hmx
  rw [my] at hmy
  simp only [Bool.false_eq_true, if_false] at hmy
  clear mx my hx hy
  obtain ⟨k, b, n, f, r, i, t⟩ := x
  obtain ⟨k', b', n', f', r', i', t'⟩ := y
  have B1 := twoD_fst w ⟨k, b, n, f, r, i, t⟩ ⟨k', b', n', f', r', i', t'⟩
  have B2 := twoD_snd w ⟨k, b, n, f, r, i, t⟩ ⟨k', b', n', f', r', i', t'⟩
  have b2 := twoD_below w ⟨k, b, n, f, r, i, t⟩ ⟨k', b', n', f', r', i', t'⟩
  unfold twoD at B1 B2 b2
  simp only at B1 B2 b2 hk
  subst hk
  go_enter Try.func19, Try.ntmps19
  go_wp2_with fail
  refine (hmx _).mono ?_
  rintro e w1 ⟨rfl, hb⟩
  have hbw : Below w.heap.size w w1 := b2.trans (hb.mono (by simp; omega))
  have B1' := B1.below hb (by simp; omega)
  have B2' := B2.below hb (by simp)
  clear B1 B2 b2 hb hmx
  obtain ⟨c0, c1, c2, c3, c4, c5, c6⟩ := B1'.cells
  obtain ⟨d0, d1, d2, d3, d4, d5, d6⟩ := B2'.cells
  simp only at c0 c1 c2 c3 c4 c5 c6 d0 d1 d2 d3 d4 d5 d6
  go_wp2_with fail
  refine (hmy _).mono ?_
  rintro e w2 ⟨rfl, hb⟩
  have hbw2 : Below w.heap.size w w2 := hbw.trans (hb.mono hbw.size)
  have B1'' := B1'.below hb B1'.lt
  have B2'' := B2'.below hb B2'.lt
  clear B1' B2' hb hbw hmy c0 c1 c2 c3 c4 c5 c6 d0 d1 d2 d3 d4 d5 d6
  obtain ⟨c0, c1, c2, c3, c4, c5, c6⟩ := B1''.cells
  obtain ⟨d0, d1, d2, d3, d4, d5, d6⟩ := B2''.cells
  simp only at c0 c1 c2 c3 c4 c5 c6 d0 d1 d2 d3 d4 d5 d6
  clear B1'' B2''
  go_wp2_with (go_at_call 42; refine (rints_any _ _ _).mono ?_; rintro e w' ⟨rfl, hq⟩; have hq2 := hq.symm; subst hq2; clear hq)
  go_ret
  exact ⟨rfl, hbw2⟩

set_option maxRecDepth 100000 in
set_option maxHeartbeats 2000000 in
theorem rcompare_none (x y : It) (w : World) (hx : ItOk x) (hy : ItOk y) (hk : x.k = y.k) (mx : may x = true) (my : may y = true) (h : x.k = 1) :
    Calls Try.prog 19 #[valR x, valR y] w fun e w' => e = .returned (.int .i64 (0)) ∧ Below w.heap.size w w' := by
  have hmx := fun w => rcheck_any x w hx
  have hmy := fun w => rcheck_any y w hy
  rw [mx] at hmx
  simp only [if_true] at hmx
  rw [my] at hmy
  simp only [if_true] at hmy
  clear mx my hx hy
  obtain ⟨k, b, n, f, r, i, t⟩ := x
  obtain ⟨k', b', n', f', r', i', t'⟩ := y
  have B1 := twoD_fst w ⟨k, b, n, f, r, i, t⟩ ⟨k', b', n', f', r', i', t'⟩
  have B2 := twoD_snd w ⟨k, b, n, f, r, i, t⟩ ⟨k', b', n', f', r', i', t'⟩
  have b2 := twoD_below w ⟨k, b, n, f, r, i, t⟩ ⟨k', b', n', f', r', i', t'⟩
  unfold twoD at B1 B2 b2
  simp only at B1 B2 b2 hk
  simp only at h
  subst h
  subst hk
  go_enter Try.func19, Try.ntmps19
  go_wp2_with fail
  refine (hmx _).mono ?_
  rintro e w1 ⟨rfl, hb⟩
  have hbw : Below w.heap.size w w1 := b2.trans (hb.mono (by simp; omega))
  have B1' := B1.below hb (by simp; omega)
  have B2' := B2.below hb (by simp)
  clear B1 B2 b2 hb hmx
  obtain ⟨c0, c1, c2, c3, c4, c5, c6⟩ := B1'.cells
  obtain ⟨d0, d1, d2, d3, d4, d5, d6⟩ := B2'.cells
  simp only at c0 c1 c2 c3 c4 c5 c6 d0 d1 d2 d3 d4 d5 d6
  go_wp2_with fail
  refine (hmy _).mono ?_
  rintro e w2 ⟨rfl, hb⟩
  have hbw2 : Below w.heap.size w w2 := hbw.trans (hb.mono hbw.size)
  have B1'' := B1'.below hb B1'.lt
  have B2'' := B2'.below hb B2'.lt
  clear B1' B2' hb hbw hmy c0 c1 c2 c3 c4 c5 c6 d0 d1 d2 d3 d4 d5 d6
  obtain ⟨c0, c1, c2, c3, c4, c5, c6⟩ := B1''.cells
  obtain ⟨d0, d1, d2, d3, d4, d5, d6⟩ := B2''.cells
  simp only at c0 c1 c2 c3 c4 c5 c6 d0 d1 d2 d3 d4 d5 d6
  clear B1'' B2''
  go_wp2_with fail
  go_ret
  exact ⟨rfl, hbw2⟩

set_option maxRecDepth 100000 in
set_option maxHeartbeats 2000000 in
theorem rcompare_bool (x y : It) (w : World) (hx : ItOk x) (hy : ItOk y) (hk : x.k = y.k) (mx : may x = true) (my : may y = true) (h : x.k = 2) :
    Calls Try.prog 19 #[valR x, valR y] w fun e w' => e = .returned (.int .i64 (cmpB x.b y.b)) ∧ Below w.heap.size w w' := by
  have hmx := fun w => rcheck_any x w hx
  have hmy := fun w => rcheck_any y w hy
  rw [mx] at hmx
  simp only [if_true] at hmx
  rw [my] at hmy
  simp only [if_true] at hmy
  clear mx my hx hy
  obtain ⟨k, b, n, f, r, i, t⟩ := x
  obtain ⟨k', b', n', f', r', i', t'⟩ := y
  have B1 := twoD_fst w ⟨k, b, n, f, r, i, t⟩ ⟨k', b', n', f', r', i', t'⟩
  have B2 := twoD_snd w ⟨k, b, n, f, r, i, t⟩ ⟨k', b', n', f', r', i', t'⟩
  have b2 := twoD_below w ⟨k, b, n, f, r, i, t⟩ ⟨k', b', n', f', r', i', t'⟩
  unfold twoD at B1 B2 b2
  simp only at B1 B2 b2 hk
  simp only at h
  subst h
  subst hk
  go_enter Try.func19, Try.ntmps19
  go_wp2_with fail
  refine (hmx _).mono ?_
  rintro e w1 ⟨rfl, hb⟩
  have hbw : Below w.heap.size w w1 := b2.trans (hb.mono (by simp; omega))
  have B1' := B1.below hb (by simp; omega)
  have B2' := B2.below hb (by simp)
  clear B1 B2 b2 hb hmx
  obtain ⟨c0, c1, c2, c3, c4, c5, c6⟩ := B1'.cells
  obtain ⟨d0, d1, d2, d3, d4, d5, d6⟩ := B2'.cells
  simp only at c0 c1 c2 c3 c4 c5 c6 d0 d1 d2 d3 d4 d5 d6
  go_wp2_with fail
  refine (hmy _).mono ?_
  rintro e w2 ⟨rfl, hb⟩
  have hbw2 : Below w.heap.size w w2 := hbw.trans (hb.mono hbw.size)
  have B1'' := B1'.below hb B1'.lt
  have B2'' := B2'.below hb B2'.lt
  clear B1' B2' hb hbw hmy c0 c1 c2 c3 c4 c5 c6 d0 d1 d2 d3 d4 d5 d6
  obtain ⟨c0, c1, c2, c3, c4, c5, c6⟩ := B1''.cells
  obtain ⟨d0, d1, d2, d3, d4, d5, d6⟩ := B2''.cells
  simp only at c0 c1 c2 c3 c4 c5 c6 d0 d1 d2 d3 d4 d5 d6
  clear B1'' B2''
  cases b <;> cases b'
  all_goals go_wp2_with fail
  all_goals go_ret
  all_goals exact ⟨rfl, hbw2⟩

set_option maxRecDepth 100000 in
set_option maxHeartbeats 2000000 in
theorem rcompare_int (x y : It) (w : World) (hx : ItOk x) (hy : ItOk y) (hk : x.k = y.k) (mx : may x = true) (my : may y = true) (h : x.k = 3) :
    Calls Try.prog 19 #[valR x, valR y] w fun e w' => e = .returned (.int .i64 (cmpI x.n y.n)) ∧ Below w.heap.size w w' := by
  have hmx := fun w => rcheck_any x w hx
  have hmy := fun w => rcheck_any y w hy
  rw [mx] at hmx
  simp only [if_true] at hmx
  rw [my] at hmy
  simp only [if_true] at hmy
  clear mx my hx hy
  obtain ⟨k, b, n, f, r, i, t⟩ := x
  obtain ⟨k', b', n', f', r', i', t'⟩ := y
  have B1 := twoD_fst w ⟨k, b, n, f, r, i, t⟩ ⟨k', b', n', f', r', i', t'⟩
  have B2 := twoD_snd w ⟨k, b, n, f, r, i, t⟩ ⟨k', b', n', f', r', i', t'⟩
  have b2 := twoD_below w ⟨k, b, n, f, r, i, t⟩ ⟨k', b', n', f', r', i', t'⟩
  unfold twoD at B1 B2 b2
  simp only at B1 B2 b2 hk
  simp only at h
  subst h
  subst hk
  go_enter Try.func19, Try.ntmps19
  go_wp2_with fail
  refine (hmx _).mono ?_
  rintro e w1 ⟨rfl, hb⟩
  have hbw : Below w.heap.size w w1 := b2.trans (hb.mono (by simp; omega))
  have B1' := B1.below hb (by simp; omega)
  have B2' := B2.below hb (by simp)
  clear B1 B2 b2 hb hmx
  obtain ⟨c0, c1, c2, c3, c4, c5, c6⟩ := B1'.cells
  obtain ⟨d0, d1, d2, d3, d4, d5, d6⟩ := B2'.cells
  simp only at c0 c1 c2 c3 c4 c5 c6 d0 d1 d2 d3 d4 d5 d6
  go_wp2_with fail
  refine (hmy _).mono ?_
  rintro e w2 ⟨rfl, hb⟩
  have hbw2 : Below w.heap.size w w2 := hbw.trans (hb.mono hbw.size)
  have B1'' := B1'.below hb B1'.lt
  have B2'' := B2'.below hb B2'.lt
  clear B1' B2' hb hbw hmy c0 c1 c2 c3 c4 c5 c6 d0 d1 d2 d3 d4 d5 d6
  obtain ⟨c0, c1, c2, c3, c4, c5, c6⟩ := B1''.cells
  obtain ⟨d0, d1, d2, d3, d4, d5, d6⟩ := B2''.cells
  simp only at c0 c1 c2 c3 c4 c5 c6 d0 d1 d2 d3 d4 d5 d6
  clear B1'' B2''
  go_wp2_with (go_at_call 42; refine (rints_any _ _ _).mono ?_; rintro e w' ⟨rfl, hq⟩; have hq2 := hq.symm; subst hq2; clear hq)
  go_ret
  exact ⟨rfl, hbw2⟩

set_option maxRecDepth 100000 in
set_option maxHeartbeats 2000000 in
theorem rcompare_float (x y : It) (w : World) (hx : ItOk x) (hy : ItOk y) (hk : x.k = y.k) (mx : may x = true) (my : may y = true) (h : x.k = 4) :
    Calls Try.prog 19 #[valR x, valR y] w fun e w' => e = .returned (.int .i64 (cmpF x.f y.f)) ∧ Below w.heap.size w w' := by
  have hmx := fun w => rcheck_any x w hx
  have hmy := fun w => rcheck_any y w hy
  rw [mx] at hmx
  simp only [if_true] at hmx
  rw [my] at hmy
  simp only [if_true] at hmy
  have hcf := fun w => rfloats_any x.f y.f w hx.f hy.f
  clear mx my hx hy
  obtain ⟨k, b, n, f, r, i, t⟩ := x
  obtain ⟨k', b', n', f', r', i', t'⟩ := y
  have B1 := twoD_fst w ⟨k, b, n, f, r, i, t⟩ ⟨k', b', n', f', r', i', t'⟩
  have B2 := twoD_snd w ⟨k, b, n, f, r, i, t⟩ ⟨k', b', n', f', r', i', t'⟩
  have b2 := twoD_below w ⟨k, b, n, f, r, i, t⟩ ⟨k', b', n', f', r', i', t'⟩
  unfold twoD at B1 B2 b2
  simp only at B1 B2 b2 hk
  simp only at h
  subst h
  subst hk
  simp only at hcf
  go_enter Try.func19, Try.ntmps19
  go_wp2_with fail
  refine (hmx _).mono ?_
  rintro e w1 ⟨rfl, hb⟩
  have hbw : Below w.heap.size w w1 := b2.trans (hb.mono (by simp; omega))
  have B1' := B1.below hb (by simp; omega)
  have B2' := B2.below hb (by simp)
  clear B1 B2 b2 hb hmx
  obtain ⟨c0, c1, c2, c3, c4, c5, c6⟩ := B1'.cells
  obtain ⟨d0, d1, d2, d3, d4, d5, d6⟩ := B2'.cells
  simp only at c0 c1 c2 c3 c4 c5 c6 d0 d1 d2 d3 d4 d5 d6
  go_wp2_with fail
  refine (hmy _).mono ?_
  rintro e w2 ⟨rfl, hb⟩
  have hbw2 : Below w.heap.size w w2 := hbw.trans (hb.mono hbw.size)
  have B1'' := B1'.below hb B1'.lt
  have B2'' := B2'.below hb B2'.lt
  clear B1' B2' hb hbw hmy c0 c1 c2 c3 c4 c5 c6 d0 d1 d2 d3 d4 d5 d6
  obtain ⟨c0, c1, c2, c3, c4, c5, c6⟩ := B1''.cells
  obtain ⟨d0, d1, d2, d3, d4, d5, d6⟩ := B2''.cells
  simp only at c0 c1 c2 c3 c4 c5 c6 d0 d1 d2 d3 d4 d5 d6
  clear B1'' B2''
  go_wp2_with (go_at_call 43; refine (hcf _).mono ?_; rintro e w' ⟨rfl, hq⟩; have hq2 := hq.symm; subst hq2; clear hq)
  go_ret
  exact ⟨rfl, hbw2⟩

set_option maxRecDepth 100000 in
set_option maxHeartbeats 2000000 in
theorem rcompare_complex (x y : It) (w : World) (hx : ItOk x) (hy : ItOk y) (hk : x.k = y.k) (mx : may x = true) (my : may y = true) (h : x.k = 5) :
    Calls Try.prog 19 #[valR x, valR y] w fun e w' => e = .returned (.int .i64 (orI (cmpF x.r y.r) (cmpF x.i y.i))) ∧ Below w.heap.size w w' := by
  have hmx := fun w => rcheck_any x w hx
  have hmy := fun w => rcheck_any y w hy
  rw [mx] at hmx
  simp only [if_true] at hmx
  rw [my] at hmy
  simp only [if_true] at hmy
  have hcr := fun w => rfloats_any x.r y.r w hx.r hy.r
  have hci := fun w => rfloats_any x.i y.i w hx.i hy.i
  clear mx my hx hy
  obtain ⟨k, b, n, f, r, i, t⟩ := x
  obtain ⟨k', b', n', f', r', i', t'⟩ := y
  have B1 := twoD_fst w ⟨k, b, n, f, r, i, t⟩ ⟨k', b', n', f', r', i', t'⟩
  have B2 := twoD_snd w ⟨k, b, n, f, r, i, t⟩ ⟨k', b', n', f', r', i', t'⟩
  have b2 := twoD_below w ⟨k, b, n, f, r, i, t⟩ ⟨k', b', n', f', r', i', t'⟩
  unfold twoD at B1 B2 b2
  simp only at B1 B2 b2 hk
  simp only at h
  subst h
  subst hk
  simp only at hcr hci
  generalize cmpF r r' = R1 at *
  generalize cmpF i i' = R2 at *
  go_enter Try.func19, Try.ntmps19
  go_wp2_with fail
  refine (hmx _).mono ?_
  rintro e w1 ⟨rfl, hb⟩
  have hbw : Below w.heap.size w w1 := b2.trans (hb.mono (by simp; omega))
  have B1' := B1.below hb (by simp; omega)
  have B2' := B2.below hb (by simp)
  clear B1 B2 b2 hb hmx
  obtain ⟨c0, c1, c2, c3, c4, c5, c6⟩ := B1'.cells
  obtain ⟨d0, d1, d2, d3, d4, d5, d6⟩ := B2'.cells
  simp only at c0 c1 c2 c3 c4 c5 c6 d0 d1 d2 d3 d4 d5 d6
  go_wp2_with fail
  refine (hmy _).mono ?_
  rintro e w2 ⟨rfl, hb⟩
  have hbw2 : Below w.heap.size w w2 := hbw.trans (hb.mono hbw.size)
  have B1'' := B1'.below hb B1'.lt
  have B2'' := B2'.below hb B2'.lt
  clear B1' B2' hb hbw hmy c0 c1 c2 c3 c4 c5 c6 d0 d1 d2 d3 d4 d5 d6
  obtain ⟨c0, c1, c2, c3, c4, c5, c6⟩ := B1''.cells
  obtain ⟨d0, d1, d2, d3, d4, d5, d6⟩ := B2''.cells
  simp only at c0 c1 c2 c3 c4 c5 c6 d0 d1 d2 d3 d4 d5 d6
  clear B1'' B2''
  go_wp2_with fail
  refine (hcr _).mono ?_
  rintro e u ⟨rfl, hq⟩
  have hq2 := hq.symm
  subst hq2
  clear hq
  by_cases h0 : R1 = 0
  · subst h0
    go_wp2_with fail
    refine (hci _).mono ?_
    rintro e u' ⟨rfl, hq⟩
    have hq2 := hq.symm
    subst hq2
    clear hq
    go_wp2_with fail
    go_ret
    exact ⟨by rw [orI_nil]; rfl, hbw2⟩
  · have hb0 : (R1 == 0) = false := by simpa using h0
    go_wp2_with fail
    go_ret
    exact ⟨by rw [orI_ne h0]; rfl, hbw2⟩

set_option maxRecDepth 100000 in
set_option maxHeartbeats 2000000 in
theorem rcompare_text (x y : It) (w : World) (hx : ItOk x) (hy : ItOk y) (hk : x.k = y.k) (mx : may x = true) (my : may y = true) (h : x.k = 6) (hsx : x.t.size ≤ 140737488355328) (hsy : y.t.size ≤ 140737488355328) :
    Calls Try.prog 19 #[valR x, valR y] w fun e w' => e = .returned (.int .i64 (lexc (strNat x.t) (strNat y.t))) ∧ Below w.heap.size w w' := by
  have hmx := fun w => rcheck_any x w hx
  have hmy := fun w => rcheck_any y w hy
  rw [mx] at hmx
  simp only [if_true] at hmx
  rw [my] at hmy
  simp only [if_true] at hmy
  have hct := fun w => rtexts_any x.t y.t w hsx hsy
  clear mx my hx hy hsx hsy
  obtain ⟨k, b, n, f, r, i, t⟩ := x
  obtain ⟨k', b', n', f', r', i', t'⟩ := y
  have B1 := twoD_fst w ⟨k, b, n, f, r, i, t⟩ ⟨k', b', n', f', r', i', t'⟩
  have B2 := twoD_snd w ⟨k, b, n, f, r, i, t⟩ ⟨k', b', n', f', r', i', t'⟩
  have b2 := twoD_below w ⟨k, b, n, f, r, i, t⟩ ⟨k', b', n', f', r', i', t'⟩
  unfold twoD at B1 B2 b2
  simp only at B1 B2 b2 hk
  simp only at h
  subst h
  subst hk
  simp only at hct
  go_enter Try.func19, Try.ntmps19
  go_wp2_with fail
  refine (hmx _).mono ?_
  rintro e w1 ⟨rfl, hb⟩
  have hbw : Below w.heap.size w w1 := b2.trans (hb.mono (by simp; omega))
  have B1' := B1.below hb (by simp; omega)
  have B2' := B2.below hb (by simp)
  clear B1 B2 b2 hb hmx
  obtain ⟨c0, c1, c2, c3, c4, c5, c6⟩ := B1'.cells
  obtain ⟨d0, d1, d2, d3, d4, d5, d6⟩ := B2'.cells
  simp only at c0 c1 c2 c3 c4 c5 c6 d0 d1 d2 d3 d4 d5 d6
  go_wp2_with fail
  refine (hmy _).mono ?_
  rintro e w2 ⟨rfl, hb⟩
  have hbw2 : Below w.heap.size w w2 := hbw.trans (hb.mono hbw.size)
  have B1'' := B1'.below hb B1'.lt
  have B2'' := B2'.below hb B2'.lt
  clear B1' B2' hb hbw hmy c0 c1 c2 c3 c4 c5 c6 d0 d1 d2 d3 d4 d5 d6
  obtain ⟨c0, c1, c2, c3, c4, c5, c6⟩ := B1''.cells
  obtain ⟨d0, d1, d2, d3, d4, d5, d6⟩ := B2''.cells
  simp only at c0 c1 c2 c3 c4 c5 c6 d0 d1 d2 d3 d4 d5 d6
  clear B1'' B2''
  go_wp2_with fail
  refine (hct _).mono ?_
  rintro e w3 ⟨rfl, hb3⟩
  have hbw3 := hbw2.trans (hb3.mono hbw2.size)
  go_wp2_with fail
  go_ret
  exact ⟨rfl, hbw3⟩

theorem rcompare_any (x y : It) (w : World) (hx : ItOk x) (hy : ItOk y) (hsx : x.t.size ≤ 140737488355328) (hsy : y.t.size ≤ 140737488355328) :
    Calls Try.prog 19 #[valR x, valR y] w fun e w' => e = .returned (.int .i64 (cmpIt x y)) ∧ Below w.heap.size w w' := by
  unfold cmpIt
  by_cases hk : x.k = y.k
  · cases mx : may x with
    | false =>
      rw [if_pos (.inr (.inl rfl))]
      exact rcompare_not1 x y w hx hk mx
    | true =>
      cases my : may y with
      | false =>
        rw [if_pos (.inr (.inr rfl))]
        exact rcompare_not2 x y w hx hy hk mx my
      | true =>
        rw [if_neg (by simp [hk])]
        have hb := may_kind mx
        by_cases h2 : x.k = 2
        · rw [if_pos h2]; exact rcompare_bool x y w hx hy hk mx my h2
        · rw [if_neg h2]
          by_cases h3 : x.k = 3
          · rw [if_pos h3]; exact rcompare_int x y w hx hy hk mx my h3
          · rw [if_neg h3]
            by_cases h4 : x.k = 4
            · rw [if_pos h4]; exact rcompare_float x y w hx hy hk mx my h4
            · rw [if_neg h4]
              by_cases h5 : x.k = 5
              · rw [if_pos h5]; exact rcompare_complex x y w hx hy hk mx my h5
              · rw [if_neg h5]
                by_cases h6 : x.k = 6
                · rw [if_pos h6]; exact rcompare_text x y w hx hy hk mx my h6 hsx hsy
                · rw [if_neg h6]; exact rcompare_none x y w hx hy hk mx my (by omega)
  · rw [if_pos (.inl hk)]
    exact rcompare_unlike x y w hk

end Go.Proofs.Ytahnpbgbekbfhaa
