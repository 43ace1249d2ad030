/- Two items compared by the program. -/
import Derived.Test.YtelcfmjhbjnkoaaOw3
namespace Go.Proofs.Ytelcfmjhbjnkoaa
open Go.RowKit

attribute [local go_sem] st_float st_complex

theorem cell_two_new (w : World) (a b : Value) (t : TypeId) : (w.alloc (.cells #[a, b] t)).cell? ⟨w.heap.size, 0, none⟩ = some a ∧ (w.alloc (.cells #[a, b] t)).cell? ⟨w.heap.size, 1, none⟩ = some b :=
  ⟨by rw [cell_of_row _ _ _ _ _ _ (heap_alloc_new w _)]; rfl, by rw [cell_of_row _ _ _ _ _ _ (heap_alloc_new w _)]; rfl⟩

/-- The world with two items in boxes. -/
abbrev two (w : World) (x y : It) : World := (w.alloc (.cells #[.int .i64 x.k, .bool x.b, .int .i64 x.n, .float .f64 x.f, .complex .f64 x.r x.i, .string x.t] 29)).alloc (.cells #[.int .i64 y.k, .bool y.b, .int .i64 y.n, .float .f64 y.f, .complex .f64 y.r y.i, .string y.t] 29)
theorem two_fst (w : World) (x y : It) : BoxI (two w x y) w.heap.size x := (BoxI.new w x).below ((Below.refl _ _).alloc (Nat.le_refl _) _) (by simp)
theorem two_snd (w : World) (x y : It) : BoxI (two w x y) (w.heap.size + 1) y := heap_alloc2_new w _ _
theorem two_below (w : World) (x y : It) : Below w.heap.size w (two w x y) := ((Below.refl _ _).alloc (Nat.le_refl _) _).alloc (by simp) _

set_option maxRecDepth 100000 in
set_option maxHeartbeats 1000000 in
theorem compare_unlike (x y : It) (w : World) (hk : x.k ≠ y.k) :
    Calls Try.prog 16 #[valI x, valI y] w fun e w' => e = .returned (.int .i64 (cmpI x.k y.k)) ∧ Below w.heap.size w w' := by
  obtain ⟨k, b, n, f, r, i, t⟩ := x
  obtain ⟨k', b', n', f', r', i', t'⟩ := y
  have B1 := two_fst w ⟨k, b, n, f, r, i, t⟩ ⟨k', b', n', f', r', i', t'⟩
  have B2 := two_snd w ⟨k, b, n, f, r, i, t⟩ ⟨k', b', n', f', r', i', t'⟩
  have b2 := two_below w ⟨k, b, n, f, r, i, t⟩ ⟨k', b', n', f', r', i', t'⟩
  unfold two at B1 B2 b2
  simp only at B1 B2 b2 hk
  have hk2 : (k == k') = false := by simpa using hk
  clear B1 B2
  go_enter Try.func16, Try.ntmps16
  go_wp2_with (go_at_call 25; refine (cmpInt _ _ _).mono ?_; rintro e w' ⟨rfl, hq⟩; have hq2 := hq.symm; subst hq2; clear hq)
  go_ret
  exact ⟨rfl, b2⟩

set_option maxRecDepth 100000 in
set_option maxHeartbeats 1000000 in
theorem compare_not1 (x y : It) (w : World) (hx : ItOk x) (hk : x.k = y.k) (mx : may x = false) :
    Calls Try.prog 16 #[valI x, valI y] w fun e w' => e = .returned (.int .i64 (cmpI x.k y.k)) ∧ Below w.heap.size w w' := by
  have hmx := fun w => mayBe_any x w hx
  rw [mx] at hmx
  clear mx hx
  obtain ⟨k, b, n, f, r, i, t⟩ := x
  obtain ⟨k', b', n', f', r', i', t'⟩ := y
  have B1 := two_fst w ⟨k, b, n, f, r, i, t⟩ ⟨k', b', n', f', r', i', t'⟩
  have B2 := two_snd w ⟨k, b, n, f, r, i, t⟩ ⟨k', b', n', f', r', i', t'⟩
  have b2 := two_below w ⟨k, b, n, f, r, i, t⟩ ⟨k', b', n', f', r', i', t'⟩
  unfold two at B1 B2 b2
  simp only at B1 B2 b2 hk
  subst hk
  go_enter Try.func16, Try.ntmps16
  go_wp2_with fail
  refine (hmx _).mono ?_
  rintro e w1 ⟨rfl, hb⟩
  have hbw : Below w.heap.size w w1 := b2.trans (hb.mono (by simp; omega))
  have B1' := B1.below hb (by simp; omega)
  have B2' := B2.below hb (by simp)
  clear B1 B2 b2 hb hmx
  obtain ⟨c0, c1, c2, c3, c4, c5⟩ := B1'.cells
  obtain ⟨d0, d1, d2, d3, d4, d5⟩ := B2'.cells
  simp only at c0 c1 c2 c3 c4 c5 d0 d1 d2 d3 d4 d5
  clear B1' B2'
  go_wp2_with (go_at_call 25; refine (cmpInt _ _ _).mono ?_; rintro e w' ⟨rfl, hq⟩; have hq2 := hq.symm; subst hq2; clear hq)
  go_ret
  exact ⟨rfl, hbw⟩

set_option maxRecDepth 100000 in
set_option maxHeartbeats 1000000 in
theorem compare_not2 (x y : It) (w : World) (hx : ItOk x) (hy : ItOk y) (hk : x.k = y.k) (mx : may x = true) (my : may y = false) :
    Calls Try.prog 16 #[valI x, valI y] w fun e w' => e = .returned (.int .i64 (cmpI x.k y.k)) ∧ Below w.heap.size w w' := by
  have hmx := fun w => mayBe_any x w hx
  have hmy := fun w => mayBe_any y w hy
  rw [mx] at hmx
  rw [my] at hmy
  clear mx my hx hy
  obtain ⟨k, b, n, f, r, i, t⟩ := x
  obtain ⟨k', b', n', f', r', i', t'⟩ := y
  have B1 := two_fst w ⟨k, b, n, f, r, i, t⟩ ⟨k', b', n', f', r', i', t'⟩
  have B2 := two_snd w ⟨k, b, n, f, r, i, t⟩ ⟨k', b', n', f', r', i', t'⟩
  have b2 := two_below w ⟨k, b, n, f, r, i, t⟩ ⟨k', b', n', f', r', i', t'⟩
  unfold two at B1 B2 b2
  simp only at B1 B2 b2 hk
  subst hk
  go_enter Try.func16, Try.ntmps16
  go_wp2_with fail
  refine (hmx _).mono ?_
  rintro e w1 ⟨rfl, hb⟩
  have hbw : Below w.heap.size w w1 := b2.trans (hb.mono (by simp; omega))
  have B1' := B1.below hb (by simp; omega)
  have B2' := B2.below hb (by simp)
  clear B1 B2 b2 hb hmx
  obtain ⟨c0, c1, c2, c3, c4, c5⟩ := B1'.cells
  obtain ⟨d0, d1, d2, d3, d4, d5⟩ := B2'.cells
  simp only at c0 c1 c2 c3 c4 c5 d0 d1 d2 d3 d4 d5
  go_wp2_with fail
  refine (hmy _).mono ?_
  rintro e w2 ⟨rfl, hb⟩
  have hbw2 : Below w.heap.size w w2 := hbw.trans (hb.mono hbw.size)
  have B1'' := B1'.below hb B1'.lt
  have B2'' := B2'.below hb B2'.lt
  clear B1' B2' hb hbw hmy c0 c1 c2 c3 c4 c5 d0 d1 d2 d3 d4 d5
  obtain ⟨c0, c1, c2, c3, c4, c5⟩ := B1''.cells
  obtain ⟨d0, d1, d2, d3, d4, d5⟩ := B2''.cells
  simp only at c0 c1 c2 c3 c4 c5 d0 d1 d2 d3 d4 d5
  clear B1'' B2''
  go_wp2_with (go_at_call 25; refine (cmpInt _ _ _).mono ?_; rintro e w' ⟨rfl, hq⟩; have hq2 := hq.symm; subst hq2; clear hq)
  go_ret
  exact ⟨rfl, hbw2⟩

set_option maxRecDepth 100000 in
set_option maxHeartbeats 1000000 in
theorem compare_none (x y : It) (w : World) (hx : ItOk x) (hy : ItOk y) (hk : x.k = y.k) (mx : may x = true) (my : may y = true) (h : x.k = 1) :
    Calls Try.prog 16 #[valI x, valI y] w fun e w' => e = .returned (.int .i64 (0)) ∧ Below w.heap.size w w' := by
  have hmx := fun w => mayBe_any x w hx
  have hmy := fun w => mayBe_any y w hy
  rw [mx] at hmx
  rw [my] at hmy
  clear mx my hx hy
  obtain ⟨k, b, n, f, r, i, t⟩ := x
  obtain ⟨k', b', n', f', r', i', t'⟩ := y
  have B1 := two_fst w ⟨k, b, n, f, r, i, t⟩ ⟨k', b', n', f', r', i', t'⟩
  have B2 := two_snd w ⟨k, b, n, f, r, i, t⟩ ⟨k', b', n', f', r', i', t'⟩
  have b2 := two_below w ⟨k, b, n, f, r, i, t⟩ ⟨k', b', n', f', r', i', t'⟩
  unfold two at B1 B2 b2
  simp only at B1 B2 b2 hk
  simp only at h
  subst h
  subst hk
  go_enter Try.func16, Try.ntmps16
  go_wp2_with fail
  refine (hmx _).mono ?_
  rintro e w1 ⟨rfl, hb⟩
  have hbw : Below w.heap.size w w1 := b2.trans (hb.mono (by simp; omega))
  have B1' := B1.below hb (by simp; omega)
  have B2' := B2.below hb (by simp)
  clear B1 B2 b2 hb hmx
  obtain ⟨c0, c1, c2, c3, c4, c5⟩ := B1'.cells
  obtain ⟨d0, d1, d2, d3, d4, d5⟩ := B2'.cells
  simp only at c0 c1 c2 c3 c4 c5 d0 d1 d2 d3 d4 d5
  go_wp2_with fail
  refine (hmy _).mono ?_
  rintro e w2 ⟨rfl, hb⟩
  have hbw2 : Below w.heap.size w w2 := hbw.trans (hb.mono hbw.size)
  have B1'' := B1'.below hb B1'.lt
  have B2'' := B2'.below hb B2'.lt
  clear B1' B2' hb hbw hmy c0 c1 c2 c3 c4 c5 d0 d1 d2 d3 d4 d5
  obtain ⟨c0, c1, c2, c3, c4, c5⟩ := B1''.cells
  obtain ⟨d0, d1, d2, d3, d4, d5⟩ := B2''.cells
  simp only at c0 c1 c2 c3 c4 c5 d0 d1 d2 d3 d4 d5
  clear B1'' B2''
  go_wp2_with fail
  go_ret
  exact ⟨rfl, hbw2⟩

set_option maxRecDepth 100000 in
set_option maxHeartbeats 1000000 in
theorem compare_bool (x y : It) (w : World) (hx : ItOk x) (hy : ItOk y) (hk : x.k = y.k) (mx : may x = true) (my : may y = true) (h : x.k = 2) :
    Calls Try.prog 16 #[valI x, valI y] w fun e w' => e = .returned (.int .i64 (cmpB x.b y.b)) ∧ Below w.heap.size w w' := by
  have hmx := fun w => mayBe_any x w hx
  have hmy := fun w => mayBe_any y w hy
  rw [mx] at hmx
  rw [my] at hmy
  clear mx my hx hy
  obtain ⟨k, b, n, f, r, i, t⟩ := x
  obtain ⟨k', b', n', f', r', i', t'⟩ := y
  have B1 := two_fst w ⟨k, b, n, f, r, i, t⟩ ⟨k', b', n', f', r', i', t'⟩
  have B2 := two_snd w ⟨k, b, n, f, r, i, t⟩ ⟨k', b', n', f', r', i', t'⟩
  have b2 := two_below w ⟨k, b, n, f, r, i, t⟩ ⟨k', b', n', f', r', i', t'⟩
  unfold two at B1 B2 b2
  simp only at B1 B2 b2 hk
  simp only at h
  subst h
  subst hk
  go_enter Try.func16, Try.ntmps16
  go_wp2_with fail
  refine (hmx _).mono ?_
  rintro e w1 ⟨rfl, hb⟩
  have hbw : Below w.heap.size w w1 := b2.trans (hb.mono (by simp; omega))
  have B1' := B1.below hb (by simp; omega)
  have B2' := B2.below hb (by simp)
  clear B1 B2 b2 hb hmx
  obtain ⟨c0, c1, c2, c3, c4, c5⟩ := B1'.cells
  obtain ⟨d0, d1, d2, d3, d4, d5⟩ := B2'.cells
  simp only at c0 c1 c2 c3 c4 c5 d0 d1 d2 d3 d4 d5
  go_wp2_with fail
  refine (hmy _).mono ?_
  rintro e w2 ⟨rfl, hb⟩
  have hbw2 : Below w.heap.size w w2 := hbw.trans (hb.mono hbw.size)
  have B1'' := B1'.below hb B1'.lt
  have B2'' := B2'.below hb B2'.lt
  clear B1' B2' hb hbw hmy c0 c1 c2 c3 c4 c5 d0 d1 d2 d3 d4 d5
  obtain ⟨c0, c1, c2, c3, c4, c5⟩ := B1''.cells
  obtain ⟨d0, d1, d2, d3, d4, d5⟩ := B2''.cells
  simp only at c0 c1 c2 c3 c4 c5 d0 d1 d2 d3 d4 d5
  clear B1'' B2''
  go_wp2_with (go_at_call 26; refine (compareBools_any _ _ _).mono ?_; rintro e w' ⟨rfl, hq⟩; have hq2 := hq.symm; subst hq2; clear hq)
  go_ret
  exact ⟨rfl, hbw2⟩

set_option maxRecDepth 100000 in
set_option maxHeartbeats 1000000 in
theorem compare_int (x y : It) (w : World) (hx : ItOk x) (hy : ItOk y) (hk : x.k = y.k) (mx : may x = true) (my : may y = true) (h : x.k = 3) :
    Calls Try.prog 16 #[valI x, valI y] w fun e w' => e = .returned (.int .i64 (cmpI x.n y.n)) ∧ Below w.heap.size w w' := by
  have hmx := fun w => mayBe_any x w hx
  have hmy := fun w => mayBe_any y w hy
  rw [mx] at hmx
  rw [my] at hmy
  clear mx my hx hy
  obtain ⟨k, b, n, f, r, i, t⟩ := x
  obtain ⟨k', b', n', f', r', i', t'⟩ := y
  have B1 := two_fst w ⟨k, b, n, f, r, i, t⟩ ⟨k', b', n', f', r', i', t'⟩
  have B2 := two_snd w ⟨k, b, n, f, r, i, t⟩ ⟨k', b', n', f', r', i', t'⟩
  have b2 := two_below w ⟨k, b, n, f, r, i, t⟩ ⟨k', b', n', f', r', i', t'⟩
  unfold two at B1 B2 b2
  simp only at B1 B2 b2 hk
  simp only at h
  subst h
  subst hk
  go_enter Try.func16, Try.ntmps16
  go_wp2_with fail
  refine (hmx _).mono ?_
  rintro e w1 ⟨rfl, hb⟩
  have hbw : Below w.heap.size w w1 := b2.trans (hb.mono (by simp; omega))
  have B1' := B1.below hb (by simp; omega)
  have B2' := B2.below hb (by simp)
  clear B1 B2 b2 hb hmx
  obtain ⟨c0, c1, c2, c3, c4, c5⟩ := B1'.cells
  obtain ⟨d0, d1, d2, d3, d4, d5⟩ := B2'.cells
  simp only at c0 c1 c2 c3 c4 c5 d0 d1 d2 d3 d4 d5
  go_wp2_with fail
  refine (hmy _).mono ?_
  rintro e w2 ⟨rfl, hb⟩
  have hbw2 : Below w.heap.size w w2 := hbw.trans (hb.mono hbw.size)
  have B1'' := B1'.below hb B1'.lt
  have B2'' := B2'.below hb B2'.lt
  clear B1' B2' hb hbw hmy c0 c1 c2 c3 c4 c5 d0 d1 d2 d3 d4 d5
  obtain ⟨c0, c1, c2, c3, c4, c5⟩ := B1''.cells
  obtain ⟨d0, d1, d2, d3, d4, d5⟩ := B2''.cells
  simp only at c0 c1 c2 c3 c4 c5 d0 d1 d2 d3 d4 d5
  clear B1'' B2''
  go_wp2_with (go_at_call 27; refine (cmpInt64 _ _ _).mono ?_; rintro e w' ⟨rfl, hq⟩; have hq2 := hq.symm; subst hq2; clear hq)
  go_ret
  exact ⟨rfl, hbw2⟩

set_option maxRecDepth 100000 in
set_option maxHeartbeats 1000000 in
theorem compare_float (x y : It) (w : World) (hx : ItOk x) (hy : ItOk y) (hk : x.k = y.k) (mx : may x = true) (my : may y = true) (h : x.k = 4) :
    Calls Try.prog 16 #[valI x, valI y] w fun e w' => e = .returned (.int .i64 (cmpF x.f y.f)) ∧ Below w.heap.size w w' := by
  have hmx := fun w => mayBe_any x w hx
  have hmy := fun w => mayBe_any y w hy
  rw [mx] at hmx
  rw [my] at hmy
  have hcf := fun w => compareNumbers_any x.f y.f w hx.f hy.f
  clear mx my hx hy
  obtain ⟨k, b, n, f, r, i, t⟩ := x
  obtain ⟨k', b', n', f', r', i', t'⟩ := y
  have B1 := two_fst w ⟨k, b, n, f, r, i, t⟩ ⟨k', b', n', f', r', i', t'⟩
  have B2 := two_snd w ⟨k, b, n, f, r, i, t⟩ ⟨k', b', n', f', r', i', t'⟩
  have b2 := two_below w ⟨k, b, n, f, r, i, t⟩ ⟨k', b', n', f', r', i', t'⟩
  unfold two at B1 B2 b2
  simp only at B1 B2 b2 hk
  simp only at h
  subst h
  subst hk
  simp only at hcf
  go_enter Try.func16, Try.ntmps16
  go_wp2_with fail
  refine (hmx _).mono ?_
  rintro e w1 ⟨rfl, hb⟩
  have hbw : Below w.heap.size w w1 := b2.trans (hb.mono (by simp; omega))
  have B1' := B1.below hb (by simp; omega)
  have B2' := B2.below hb (by simp)
  clear B1 B2 b2 hb hmx
  obtain ⟨c0, c1, c2, c3, c4, c5⟩ := B1'.cells
  obtain ⟨d0, d1, d2, d3, d4, d5⟩ := B2'.cells
  simp only at c0 c1 c2 c3 c4 c5 d0 d1 d2 d3 d4 d5
  go_wp2_with fail
  refine (hmy _).mono ?_
  rintro e w2 ⟨rfl, hb⟩
  have hbw2 : Below w.heap.size w w2 := hbw.trans (hb.mono hbw.size)
  have B1'' := B1'.below hb B1'.lt
  have B2'' := B2'.below hb B2'.lt
  clear B1' B2' hb hbw hmy c0 c1 c2 c3 c4 c5 d0 d1 d2 d3 d4 d5
  obtain ⟨c0, c1, c2, c3, c4, c5⟩ := B1''.cells
  obtain ⟨d0, d1, d2, d3, d4, d5⟩ := B2''.cells
  simp only at c0 c1 c2 c3 c4 c5 d0 d1 d2 d3 d4 d5
  clear B1'' B2''
  go_wp2_with (go_at_call 28; refine (hcf _).mono ?_; rintro e w' ⟨rfl, hq⟩; have hq2 := hq.symm; subst hq2; clear hq)
  go_ret
  exact ⟨rfl, hbw2⟩

set_option maxRecDepth 100000 in
set_option maxHeartbeats 1000000 in
theorem compare_complex (x y : It) (w : World) (hx : ItOk x) (hy : ItOk y) (hk : x.k = y.k) (mx : may x = true) (my : may y = true) (h : x.k = 5) :
    Calls Try.prog 16 #[valI x, valI y] w fun e w' => e = .returned (.int .i64 (orI (cmpF x.r y.r) (cmpF x.i y.i))) ∧ Below w.heap.size w w' := by
  have hmx := fun w => mayBe_any x w hx
  have hmy := fun w => mayBe_any y w hy
  rw [mx] at hmx
  rw [my] at hmy
  have hcr := fun w => compareNumbers_any x.r y.r w hx.r hy.r
  have hci := fun w => compareNumbers_any x.i y.i w hx.i hy.i
  clear mx my hx hy
  obtain ⟨k, b, n, f, r, i, t⟩ := x
  obtain ⟨k', b', n', f', r', i', t'⟩ := y
  have B1 := two_fst w ⟨k, b, n, f, r, i, t⟩ ⟨k', b', n', f', r', i', t'⟩
  have B2 := two_snd w ⟨k, b, n, f, r, i, t⟩ ⟨k', b', n', f', r', i', t'⟩
  have b2 := two_below w ⟨k, b, n, f, r, i, t⟩ ⟨k', b', n', f', r', i', t'⟩
  unfold two at B1 B2 b2
  simp only at B1 B2 b2 hk
  simp only at h
  subst h
  subst hk
  simp only at hcr hci
  generalize cmpF r r' = R1 at *
  generalize cmpF i i' = R2 at *
  go_enter Try.func16, Try.ntmps16
  go_wp2_with fail
  refine (hmx _).mono ?_
  rintro e w1 ⟨rfl, hb⟩
  have hbw : Below w.heap.size w w1 := b2.trans (hb.mono (by simp; omega))
  have B1' := B1.below hb (by simp; omega)
  have B2' := B2.below hb (by simp)
  clear B1 B2 b2 hb hmx
  obtain ⟨c0, c1, c2, c3, c4, c5⟩ := B1'.cells
  obtain ⟨d0, d1, d2, d3, d4, d5⟩ := B2'.cells
  simp only at c0 c1 c2 c3 c4 c5 d0 d1 d2 d3 d4 d5
  go_wp2_with fail
  refine (hmy _).mono ?_
  rintro e w2 ⟨rfl, hb⟩
  have hbw2 : Below w.heap.size w w2 := hbw.trans (hb.mono hbw.size)
  have B1'' := B1'.below hb B1'.lt
  have B2'' := B2'.below hb B2'.lt
  clear B1' B2' hb hbw hmy c0 c1 c2 c3 c4 c5 d0 d1 d2 d3 d4 d5
  obtain ⟨c0, c1, c2, c3, c4, c5⟩ := B1''.cells
  obtain ⟨d0, d1, d2, d3, d4, d5⟩ := B2''.cells
  simp only at c0 c1 c2 c3 c4 c5 d0 d1 d2 d3 d4 d5
  have l1 := B1''.lt
  have l2 := B2''.lt
  clear c0 c1 c2 c3 c4 c5 d0 d1 d2 d3 d4 d5
  obtain ⟨c0, c1, c2, c3, c4, c5⟩ := B1''.cells
  obtain ⟨d0, d1, d2, d3, d4, d5⟩ := B2''.cells
  simp only at c0 c1 c2 c3 c4 c5 d0 d1 d2 d3 d4 d5
  go_wp2_with fail
  refine wp_region_held_drew (S := (fun w' => Below w2.heap.size w2 w')) (by kernel_rfl) ?_ (fun hHeld => ?_)
  · exact (Below.refl _ _).drew
  refine take_on (i := 0) (v := ?_) rfl rfl (by kernel_rfl) (by kernel_rfl) (by kernel_rfl) (fun _ _ _ h => h) rfl ?_ hHeld ?_
  rotate_left
  · (intro wq hSq; have q1 := (hSq.cell (p := ⟨w.heap.size, 4, none⟩) l1).trans c4; have q2 := (hSq.cell (p := ⟨w.heap.size + 1, 4, none⟩) l2).trans d4; go_simp <;> first | with_reducible rfl | rfl)
  simp only [Act.put, List.setIfInBounds_toArray, List.set_cons_zero, List.set_cons_succ]
  refine take_on (i := 1) (v := ?_) rfl rfl (by kernel_rfl) (by kernel_rfl) (by kernel_rfl) (fun _ _ _ h => h) rfl ?_ hHeld ?_
  rotate_left
  · (intro wq hSq; have q1 := (hSq.cell (p := ⟨w.heap.size, 4, none⟩) l1).trans c4; have q2 := (hSq.cell (p := ⟨w.heap.size + 1, 4, none⟩) l2).trans d4; go_simp <;> first | with_reducible rfl | rfl)
  simp only [Act.put, List.setIfInBounds_toArray, List.set_cons_zero, List.set_cons_succ]
  refine take_on (i := 2) (v := ?_) rfl rfl (by kernel_rfl) (by kernel_rfl) (by kernel_rfl) (fun _ _ _ h => h) rfl ?_ hHeld ?_
  rotate_left
  · (intro wq hSq; have q1 := (hSq.cell (p := ⟨w.heap.size, 4, none⟩) l1).trans c4; have q2 := (hSq.cell (p := ⟨w.heap.size + 1, 4, none⟩) l2).trans d4; go_simp <;> first | with_reducible rfl | rfl)
  simp only [Act.put, List.setIfInBounds_toArray, List.set_cons_zero, List.set_cons_succ]
  refine take_on (i := 3) (v := ?_) rfl rfl (by kernel_rfl) (by kernel_rfl) (by kernel_rfl) (fun _ _ _ h => h) rfl ?_ hHeld ?_
  rotate_left
  · (intro wq hSq; have q1 := (hSq.cell (p := ⟨w.heap.size, 4, none⟩) l1).trans c4; have q2 := (hSq.cell (p := ⟨w.heap.size + 1, 4, none⟩) l2).trans d4; go_simp <;> first | with_reducible rfl | rfl)
  simp only [Act.put, List.setIfInBounds_toArray, List.set_cons_zero, List.set_cons_succ]
  refine take_on (i := 4) (v := ?_) rfl rfl (by kernel_rfl) (by kernel_rfl) (by kernel_rfl) (fun _ _ _ h => h) rfl ?_ hHeld ?_
  rotate_left
  · (intro wq hSq; have q1 := (hSq.cell (p := ⟨w.heap.size, 4, none⟩) l1).trans c4; have q2 := (hSq.cell (p := ⟨w.heap.size + 1, 4, none⟩) l2).trans d4; go_simp <;> first | with_reducible rfl | rfl)
  simp only [Act.put, List.setIfInBounds_toArray, List.set_cons_zero, List.set_cons_succ]
  refine take_on (i := 5) (v := ?_) rfl rfl (by kernel_rfl) (by kernel_rfl) (by kernel_rfl) (fun _ _ _ h => h) rfl ?_ hHeld ?_
  rotate_left
  · (intro wq hSq; have q1 := (hSq.cell (p := ⟨w.heap.size, 4, none⟩) l1).trans c4; have q2 := (hSq.cell (p := ⟨w.heap.size + 1, 4, none⟩) l2).trans d4; go_simp <;> first | with_reducible rfl | rfl)
  simp only [Act.put, List.setIfInBounds_toArray, List.set_cons_zero, List.set_cons_succ]
  refine take_on (i := 7) (v := ?_) rfl rfl (by kernel_rfl) (by kernel_rfl) (by kernel_rfl) (fun _ _ _ h => h) rfl ?_ hHeld ?_
  rotate_left
  · (intro wq hSq; have q1 := (hSq.cell (p := ⟨w.heap.size, 4, none⟩) l1).trans c4; have q2 := (hSq.cell (p := ⟨w.heap.size + 1, 4, none⟩) l2).trans d4; go_simp <;> first | with_reducible rfl | rfl)
  simp only [Act.put, List.setIfInBounds_toArray, List.set_cons_zero, List.set_cons_succ]
  refine take_on (i := 8) (v := ?_) rfl rfl (by kernel_rfl) (by kernel_rfl) (by kernel_rfl) (fun _ _ _ h => h) rfl ?_ hHeld ?_
  rotate_left
  · (intro wq hSq; have q1 := (hSq.cell (p := ⟨w.heap.size, 4, none⟩) l1).trans c4; have q2 := (hSq.cell (p := ⟨w.heap.size + 1, 4, none⟩) l2).trans d4; go_simp <;> first | with_reducible rfl | rfl)
  simp only [Act.put, List.setIfInBounds_toArray, List.set_cons_zero, List.set_cons_succ]
  refine take_on (i := 9) (v := ?_) rfl rfl (by kernel_rfl) (by kernel_rfl) (by kernel_rfl) (fun _ _ _ h => h) rfl ?_ hHeld ?_
  rotate_left
  · (intro wq hSq; have q1 := (hSq.cell (p := ⟨w.heap.size, 4, none⟩) l1).trans c4; have q2 := (hSq.cell (p := ⟨w.heap.size + 1, 4, none⟩) l2).trans d4; go_simp <;> first | with_reducible rfl | rfl)
  simp only [Act.put, List.setIfInBounds_toArray, List.set_cons_zero, List.set_cons_succ]
  refine take_on (i := 10) (v := ?_) rfl rfl (by kernel_rfl) (by kernel_rfl) (by kernel_rfl) (fun _ _ _ h => h) rfl ?_ hHeld ?_
  rotate_left
  · (intro wq hSq; have q1 := (hSq.cell (p := ⟨w.heap.size, 4, none⟩) l1).trans c4; have q2 := (hSq.cell (p := ⟨w.heap.size + 1, 4, none⟩) l2).trans d4; go_simp <;> first | with_reducible rfl | rfl)
  simp only [Act.put, List.setIfInBounds_toArray, List.set_cons_zero, List.set_cons_succ]
  refine take_on (i := 11) (v := ?_) rfl rfl (by kernel_rfl) (by kernel_rfl) (by kernel_rfl) (fun _ _ _ h => h) rfl ?_ hHeld ?_
  rotate_left
  · (intro wq hSq; have q1 := (hSq.cell (p := ⟨w.heap.size, 4, none⟩) l1).trans c4; have q2 := (hSq.cell (p := ⟨w.heap.size + 1, 4, none⟩) l2).trans d4; go_simp <;> first | with_reducible rfl | rfl)
  simp only [Act.put, List.setIfInBounds_toArray, List.set_cons_zero, List.set_cons_succ]
  refine take_on (i := 12) (v := ?_) rfl rfl (by kernel_rfl) (by kernel_rfl) (by kernel_rfl) (fun _ _ _ h => h) rfl ?_ hHeld ?_
  rotate_left
  · (intro wq hSq; have q1 := (hSq.cell (p := ⟨w.heap.size, 4, none⟩) l1).trans c4; have q2 := (hSq.cell (p := ⟨w.heap.size + 1, 4, none⟩) l2).trans d4; go_simp <;> first | with_reducible rfl | rfl)
  simp only [Act.put, List.setIfInBounds_toArray, List.set_cons_zero, List.set_cons_succ]
  refine take_one (i := 6) rfl (by kernel_rfl) (fun K hK => ?_)
  go_simp
  refine (hcr _).mono ?_; rintro e u ⟨rfl, hq⟩; have hq2 := hq.symm; subst hq2; clear hq
  try go_wp2_with fail
  refine hK.out _ _ ?_ (fun hHeld => ?_)
  · exact hHeld
  clear hK K
  try simp only [Act.put, List.setIfInBounds_toArray, List.set_cons_zero, List.set_cons_succ]
  refine take_one (i := 13) rfl (by kernel_rfl) (fun K hK => ?_)
  go_simp
  refine (hci _).mono ?_; rintro e u ⟨rfl, hq⟩; have hq2 := hq.symm; subst hq2; clear hq
  try go_wp2_with fail
  refine hK.out _ _ ?_ (fun hHeld => ?_)
  · exact hHeld
  clear hK K
  try simp only [Act.put, List.setIfInBounds_toArray, List.set_cons_zero, List.set_cons_succ]
  refine take_one (i := 14) rfl (by kernel_rfl) (fun K hK => ?_)
  go_simp
  refine hK.out _ _ ?_ (fun hHeld => ?_)
  · exact hHeld.alloc hHeld.size _
  clear hK K
  try simp only [Act.put, List.setIfInBounds_toArray, List.set_cons_zero, List.set_cons_succ]
  refine take_one (i := 15) rfl (by kernel_rfl) (fun K hK => ?_)
  go_simp
  have o12 := cell_two_new w2 (.int .i64 R1) (.int .i64 R2) 3; refine (or_any R1 R2 w2.heap.size _ (by exact o12.1) (by exact o12.2)).mono ?_; rintro e u ⟨rfl, hq⟩; have hq2 := hq.symm; subst hq2; clear hq
  try go_wp2_with fail
  refine hK.out _ _ ?_ (fun hHeld => ?_)
  · exact hHeld
  clear hK K
  try simp only [Act.put, List.setIfInBounds_toArray, List.set_cons_zero, List.set_cons_succ]
  refine take_on (i := 16) (v := ?_) rfl rfl (by kernel_rfl) (by kernel_rfl) (by kernel_rfl) (fun _ _ _ h => h) rfl ?_ hHeld ?_
  rotate_left
  · (intro wq hSq; have q1 := (hSq.cell (p := ⟨w.heap.size, 4, none⟩) l1).trans c4; have q2 := (hSq.cell (p := ⟨w.heap.size + 1, 4, none⟩) l2).trans d4; go_simp <;> first | with_reducible rfl | rfl)
  simp only [Act.put, List.setIfInBounds_toArray, List.set_cons_zero, List.set_cons_succ]
  refine wpAnyH_done (by kernel_rfl) ?_ _
  go_wp2_with fail
  go_ret
  exact ⟨rfl, hbw2.trans (hHeld.mono hbw2.size)⟩

set_option maxRecDepth 100000 in
set_option maxHeartbeats 1000000 in
theorem compare_text (x y : It) (w : World) (hx : ItOk x) (hy : ItOk y) (hk : x.k = y.k) (mx : may x = true) (my : may y = true) (h : x.k = 6) :
    Calls Try.prog 16 #[valI x, valI y] w fun e w' => e = .returned (.int .i64 (lexc (strNat x.t) (strNat y.t))) ∧ Below w.heap.size w w' := by
  have hmx := fun w => mayBe_any x w hx
  have hmy := fun w => mayBe_any y w hy
  rw [mx] at hmx
  rw [my] at hmy
  clear mx my hx hy
  obtain ⟨k, b, n, f, r, i, t⟩ := x
  obtain ⟨k', b', n', f', r', i', t'⟩ := y
  have B1 := two_fst w ⟨k, b, n, f, r, i, t⟩ ⟨k', b', n', f', r', i', t'⟩
  have B2 := two_snd w ⟨k, b, n, f, r, i, t⟩ ⟨k', b', n', f', r', i', t'⟩
  have b2 := two_below w ⟨k, b, n, f, r, i, t⟩ ⟨k', b', n', f', r', i', t'⟩
  unfold two at B1 B2 b2
  simp only at B1 B2 b2 hk
  simp only at h
  subst h
  subst hk
  go_enter Try.func16, Try.ntmps16
  go_wp2_with fail
  refine (hmx _).mono ?_
  rintro e w1 ⟨rfl, hb⟩
  have hbw : Below w.heap.size w w1 := b2.trans (hb.mono (by simp; omega))
  have B1' := B1.below hb (by simp; omega)
  have B2' := B2.below hb (by simp)
  clear B1 B2 b2 hb hmx
  obtain ⟨c0, c1, c2, c3, c4, c5⟩ := B1'.cells
  obtain ⟨d0, d1, d2, d3, d4, d5⟩ := B2'.cells
  simp only at c0 c1 c2 c3 c4 c5 d0 d1 d2 d3 d4 d5
  go_wp2_with fail
  refine (hmy _).mono ?_
  rintro e w2 ⟨rfl, hb⟩
  have hbw2 : Below w.heap.size w w2 := hbw.trans (hb.mono hbw.size)
  have B1'' := B1'.below hb B1'.lt
  have B2'' := B2'.below hb B2'.lt
  clear B1' B2' hb hbw hmy c0 c1 c2 c3 c4 c5 d0 d1 d2 d3 d4 d5
  obtain ⟨c0, c1, c2, c3, c4, c5⟩ := B1''.cells
  obtain ⟨d0, d1, d2, d3, d4, d5⟩ := B2''.cells
  simp only at c0 c1 c2 c3 c4 c5 d0 d1 d2 d3 d4 d5
  clear B1'' B2''
  go_wp2_with (go_at_call 30; refine (cmpStr _ _ _).mono ?_; rintro e w' ⟨rfl, hq⟩; have hq2 := hq.symm; subst hq2; clear hq)
  go_ret
  exact ⟨rfl, hbw2⟩

theorem compare_any (x y : It) (w : World) (hx : ItOk x) (hy : ItOk y) :
    Calls Try.prog 16 #[valI x, valI y] w fun e w' => e = .returned (.int .i64 (cmpIt x y)) ∧ Below w.heap.size w w' := by
  unfold cmpIt
  by_cases hk : x.k = y.k
  · cases mx : may x with
    | false =>
      rw [if_pos (.inr (.inl rfl))]
      exact compare_not1 x y w hx hk mx
    | true =>
      cases my : may y with
      | false =>
        rw [if_pos (.inr (.inr rfl))]
        exact compare_not2 x y w hx hy hk mx my
      | true =>
        rw [if_neg (by simp [hk])]
        have hb := may_kind mx
        by_cases h2 : x.k = 2
        · rw [if_pos h2]; exact compare_bool x y w hx hy hk mx my h2
        · rw [if_neg h2]
          by_cases h3 : x.k = 3
          · rw [if_pos h3]; exact compare_int x y w hx hy hk mx my h3
          · rw [if_neg h3]
            by_cases h4 : x.k = 4
            · rw [if_pos h4]; exact compare_float x y w hx hy hk mx my h4
            · rw [if_neg h4]
              by_cases h5 : x.k = 5
              · rw [if_pos h5]; exact compare_complex x y w hx hy hk mx my h5
              · rw [if_neg h5]
                by_cases h6 : x.k = 6
                · rw [if_pos h6]; exact compare_text x y w hx hy hk mx my h6
                · rw [if_neg h6]; exact compare_none x y w hx hy hk mx my (by omega)
  · rw [if_pos (.inl hk)]
    exact compare_unlike x y w hk

end Go.Proofs.Ytelcfmjhbjnkoaa
