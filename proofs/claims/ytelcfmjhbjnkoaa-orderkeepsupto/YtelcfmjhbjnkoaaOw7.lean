/- An item laid down by the program. -/
import Derived.Test.YtelcfmjhbjnkoaaOw6
namespace Go.Proofs.Ytelcfmjhbjnkoaa
open Go.RowKit

attribute [local go_sem] st_float st_complex

theorem BoxI.grown {w w' : World} {g : Nat} {x : It} {r : Option Nat} (h : BoxI w g x) (hg : w.grownBy w' r) (hne : r ≠ some g) : BoxI w' g x := by
  unfold BoxI; rw [hg.block g h.lt (fun e => hne e.symm)]; exact h

theorem step_kind {w w4 : World} {base : Nat} {v v4 : Value} {zs ys : List Nat} {x : It} {box ob : Obj} (hown : OwnB w base v zs) (B0 : BoxI (w.alloc box) w.heap.size x) (hown4 : OwnB w4 base v4 ys)
    (hg4 : ((w.alloc box).alloc ob).grownBy w4 v.ownBlock) (hat4 : v4.ownBlock = v.ownBlock ∨ v4.ownBlock = some ((w.alloc box).heap.size + 1)) :
    App w w4 base v v4 ys ∧ BoxI w4 w.heap.size x ∧ v4.ownBlock ≠ some w.heap.size := by
  have hv : v.ownBlock ≠ some w.heap.size := fun e => by have := hown.inside _ e; omega
  refine ⟨App.pre ((Below.refl _ _).alloc (Nat.le_refl _) _) (App.byte hown4 hg4 hat4), (B0.below ((Below.refl _ _).alloc (Nat.le_refl _) _) (by simp)).grown hg4 hv, ?_⟩
  rcases hat4 with e | e
  · rw [e]; exact hv
  · rw [e]; simp; omega

theorem wrap_sign {n : Int} (h1 : -9223372036854775808 ≤ n) (h2 : n ≤ 9223372036854775807) : bits .xor .u64 (IntKind.u64.wrap n) 9223372036854775808 = (((n + 9223372036854775808).toNat : Nat) : Int) := by
  have e : IntKind.u64.wrap n = ((n % 18446744073709551616).toNat : Int) := by
    simp [IntKind.wrap, IntKind.bits, IntKind.signed]; omega
  rw [e, bx63 (by omega)]
  by_cases h : n < 0
  · rw [if_neg (by omega)]; omega
  · rw [if_pos (by omega)]; omega

set_option maxRecDepth 100000 in
set_option maxHeartbeats 1000000 in
theorem appendItem_none (v : Value) (x : It) (base : Nat) (zs : List Nat) (w : World) (_hx : ItOk x) (hown : OwnB w base v zs) (hb : base ≤ w.heap.size) (hl : zs.length + 2 * x.t.size + 19 ≤ 140737488355328) (h : x.k = 1) :
    Calls Try.prog 18 #[v, valI x] w fun e w' => ∃ r, e = .returned r ∧ App w w' base v r (zs ++ encI x) := by
  have he : encI x = 1 :: body x := by unfold encI; rw [h]; rfl
  unfold body at he
  simp only [h] at he
  have HE := hide_it he
  clear he
  obtain ⟨k, b, n, f, r, i, t⟩ := x
  simp only at h hl
  subst h
  have B0 := BoxI.new w ⟨1, b, n, f, r, i, t⟩
  simp only at B0
  have how0 : OwnB (w.alloc (.cells #[.int .i64 1, .bool b, .int .i64 n, .float .f64 f, .complex .f64 r i, .string t] 29)) base v zs := hown.alloc _
  go_enter Try.func18, Try.ntmps18
  go_wp2_with (first | (at_builtin; refine wpList_append_byte _ rfl _ _ rfl base _ _ rfl how0 1 (by show Value.slice (some ⟨w.heap.size + 1, 0, none⟩) 1 1 = _; simp) (by omega) (by simp; omega) ?_; intro v4 w4 hown4 hg4 hat4; obtain ⟨A4, B4, N4⟩ := step_kind hown B0 hown4 hg4 hat4; have hb4 := Nat.le_trans hb A4.grown.size; have how4 := A4.own; have hl4 : (zs ++ [1]).length = zs.length + 1 := (by simp); obtain ⟨c0, c1, c2, c3, c4, c5⟩ := B4.cells; simp only at c0 c1 c2 c3 c4 c5; clear how0 B0 hown4 hg4 hat4))
  go_ret
  refine ⟨_, rfl, ?_⟩
  rw [HE.out]
  simpa using A4

set_option maxRecDepth 100000 in
set_option maxHeartbeats 1000000 in
theorem appendItem_bool (v : Value) (x : It) (base : Nat) (zs : List Nat) (w : World) (_hx : ItOk x) (hown : OwnB w base v zs) (hb : base ≤ w.heap.size) (hl : zs.length + 2 * x.t.size + 19 ≤ 140737488355328) (h : x.k = 2) :
    Calls Try.prog 18 #[v, valI x] w fun e w' => ∃ r, e = .returned r ∧ App w w' base v r (zs ++ encI x) := by
  have he : encI x = 2 :: body x := by unfold encI; rw [h]; rfl
  unfold body at he
  simp only [h] at he
  have HE := hide_it he
  clear he
  obtain ⟨k, b, n, f, r, i, t⟩ := x
  simp only at h hl
  subst h
  have B0 := BoxI.new w ⟨2, b, n, f, r, i, t⟩
  simp only at B0
  have how0 : OwnB (w.alloc (.cells #[.int .i64 2, .bool b, .int .i64 n, .float .f64 f, .complex .f64 r i, .string t] 29)) base v zs := hown.alloc _
  go_enter Try.func18, Try.ntmps18
  go_wp2_with (first | (at_builtin; refine wpList_append_byte _ rfl _ _ rfl base _ _ rfl how0 2 (by show Value.slice (some ⟨w.heap.size + 1, 0, none⟩) 1 1 = _; simp) (by omega) (by simp; omega) ?_; intro v4 w4 hown4 hg4 hat4; obtain ⟨A4, B4, N4⟩ := step_kind hown B0 hown4 hg4 hat4; have hb4 := Nat.le_trans hb A4.grown.size; have how4 := A4.own; have hl4 : (zs ++ [2]).length = zs.length + 1 := (by simp); obtain ⟨c0, c1, c2, c3, c4, c5⟩ := B4.cells; simp only at c0 c1 c2 c3 c4 c5; clear how0 B0 hown4 hg4 hat4) | (go_at_call 31; refine (bit_any _ _).mono ?_; rintro e w' ⟨rfl, hq⟩; have hq2 := hq.symm; subst hq2; clear hq) | (at_builtin; refine wpList_append_byte _ rfl _ _ rfl base _ _ rfl how4 b.toNat rfl (by omega) hb4 ?_; intro v5 w5 hown5 hg5 hat5))
  go_ret
  refine ⟨_, rfl, ?_⟩
  rw [HE.out]
  simpa using A4.trans (App.byte hown5 hg5 hat5)

set_option maxRecDepth 100000 in
set_option maxHeartbeats 1000000 in
theorem appendItem_int (v : Value) (x : It) (base : Nat) (zs : List Nat) (w : World) (hx : ItOk x) (hown : OwnB w base v zs) (hb : base ≤ w.heap.size) (hl : zs.length + 2 * x.t.size + 19 ≤ 140737488355328) (h : x.k = 3) :
    Calls Try.prog 18 #[v, valI x] w fun e w' => ∃ r, e = .returned r ∧ App w w' base v r (zs ++ encI x) := by
  have hw := wrap_sign hx.n1 hx.n2
  have hu : (x.n + 9223372036854775808).toNat < 18446744073709551616 := by have := hx.n1; have := hx.n2; omega
  have he : encI x = 3 :: body x := by unfold encI; rw [h]; rfl
  unfold body at he
  simp only [h] at he
  have HE := hide_it he
  clear he hx
  obtain ⟨k, b, n, f, r, i, t⟩ := x
  simp only at h hl
  subst h
  have B0 := BoxI.new w ⟨3, b, n, f, r, i, t⟩
  simp only at B0
  have how0 : OwnB (w.alloc (.cells #[.int .i64 3, .bool b, .int .i64 n, .float .f64 f, .complex .f64 r i, .string t] 29)) base v zs := hown.alloc _
  simp only at hw hu
  obtain ⟨m, hm⟩ : ∃ m, m = (n + 9223372036854775808).toNat := ⟨_, rfl⟩
  rw [← hm] at hw hu
  have HM := hide_it hm
  clear hm
  go_enter Try.func18, Try.ntmps18
  go_wp2_with (at_builtin; refine wpList_append_byte _ rfl _ _ rfl base _ _ rfl how0 3 (by show Value.slice (some ⟨w.heap.size + 1, 0, none⟩) 1 1 = _; simp) (by omega) (by simp; omega) ?_; intro v4 w4 hown4 hg4 hat4; obtain ⟨A4, B4, N4⟩ := step_kind hown B0 hown4 hg4 hat4; have hb4 := Nat.le_trans hb A4.grown.size; have how4 := A4.own; have hl4 : (zs ++ [3]).length = zs.length + 1 := (by simp); obtain ⟨c0, c1, c2, c3, c4, c5⟩ := B4.cells; simp only at c0 c1 c2 c3 c4 c5; clear how0 B0 hown4 hg4 hat4)
  refine (appendWord_any _ _ base _ _ hu how4 hb4 (by omega)).mono ?_
  rintro e w5 ⟨r5, rfl, A5⟩
  go_wp2_with fail
  go_ret
  refine ⟨_, rfl, ?_⟩
  rw [HE.out]
  have := A4.trans A5
  rw [HM.out] at this
  simpa using this

set_option maxRecDepth 100000 in
set_option maxHeartbeats 1000000 in
theorem appendItem_float (v : Value) (x : It) (base : Nat) (zs : List Nat) (w : World) (hx : ItOk x) (hown : OwnB w base v zs) (hb : base ≤ w.heap.size) (hl : zs.length + 2 * x.t.size + 19 ≤ 140737488355328) (h : x.k = 4) :
    Calls Try.prog 18 #[v, valI x] w fun e w' => ∃ r, e = .returned r ∧ App w w' base v r (zs ++ encI x) := by
  have hri := fun w => rising_any x.f w hx.f
  have hu := rise_lt hx.f
  have he : encI x = 4 :: body x := by unfold encI; rw [h]; rfl
  unfold body at he
  simp only [h] at he
  have HE := hide_it he
  clear he hx
  obtain ⟨k, b, n, f, r, i, t⟩ := x
  simp only at h hl
  subst h
  have B0 := BoxI.new w ⟨4, b, n, f, r, i, t⟩
  simp only at B0
  have how0 : OwnB (w.alloc (.cells #[.int .i64 4, .bool b, .int .i64 n, .float .f64 f, .complex .f64 r i, .string t] 29)) base v zs := hown.alloc _
  simp only at hri hu
  go_enter Try.func18, Try.ntmps18
  go_wp2_with (at_builtin; refine wpList_append_byte _ rfl _ _ rfl base _ _ rfl how0 4 (by show Value.slice (some ⟨w.heap.size + 1, 0, none⟩) 1 1 = _; simp) (by omega) (by simp; omega) ?_; intro v4 w4 hown4 hg4 hat4; obtain ⟨A4, B4, N4⟩ := step_kind hown B0 hown4 hg4 hat4; have hb4 := Nat.le_trans hb A4.grown.size; have how4 := A4.own; have hl4 : (zs ++ [4]).length = zs.length + 1 := (by simp); obtain ⟨c0, c1, c2, c3, c4, c5⟩ := B4.cells; simp only at c0 c1 c2 c3 c4 c5; clear how0 B0 hown4 hg4 hat4)
  refine (hri _).mono ?_
  rintro e w' ⟨rfl, hq⟩
  have hq2 := hq.symm
  subst hq2
  clear hq
  go_wp2_with fail
  refine (appendWord_any _ _ base _ _ hu how4 hb4 (by omega)).mono ?_
  rintro e w5 ⟨r5, rfl, A5⟩
  go_wp2_with fail
  go_ret
  refine ⟨_, rfl, ?_⟩
  rw [HE.out]
  simpa using A4.trans A5

set_option maxRecDepth 100000 in
set_option maxHeartbeats 1000000 in
theorem appendItem_complex (v : Value) (x : It) (base : Nat) (zs : List Nat) (w : World) (hx : ItOk x) (hown : OwnB w base v zs) (hb : base ≤ w.heap.size) (hl : zs.length + 2 * x.t.size + 19 ≤ 140737488355328) (h : x.k = 5) :
    Calls Try.prog 18 #[v, valI x] w fun e w' => ∃ r, e = .returned r ∧ App w w' base v r (zs ++ encI x) := by
  have hrr := fun w => rising_any x.r w hx.r
  have hri := fun w => rising_any x.i w hx.i
  have hu := rise_lt hx.r
  have hu2 := rise_lt hx.i
  have he : encI x = 5 :: body x := by unfold encI; rw [h]; rfl
  unfold body at he
  simp only [h] at he
  have HE := hide_it he
  clear he hx
  obtain ⟨k, b, n, f, r, i, t⟩ := x
  simp only at h hl
  subst h
  have B0 := BoxI.new w ⟨5, b, n, f, r, i, t⟩
  simp only at B0
  have how0 : OwnB (w.alloc (.cells #[.int .i64 5, .bool b, .int .i64 n, .float .f64 f, .complex .f64 r i, .string t] 29)) base v zs := hown.alloc _
  simp only at hrr hri hu hu2
  go_enter Try.func18, Try.ntmps18
  go_wp2_with (at_builtin; refine wpList_append_byte _ rfl _ _ rfl base _ _ rfl how0 5 (by show Value.slice (some ⟨w.heap.size + 1, 0, none⟩) 1 1 = _; simp) (by omega) (by simp; omega) ?_; intro v4 w4 hown4 hg4 hat4; obtain ⟨A4, B4, N4⟩ := step_kind hown B0 hown4 hg4 hat4; have hb4 := Nat.le_trans hb A4.grown.size; have how4 := A4.own; have hl4 : (zs ++ [5]).length = zs.length + 1 := (by simp); obtain ⟨c0, c1, c2, c3, c4, c5⟩ := B4.cells; simp only at c0 c1 c2 c3 c4 c5; clear how0 B0 hown4 hg4 hat4)
  refine (hrr _).mono ?_
  rintro e w' ⟨rfl, hq⟩
  have hq2 := hq.symm
  subst hq2
  clear hq
  go_wp2_with fail
  refine (appendWord_any _ _ base _ _ hu how4 hb4 (by omega)).mono ?_
  rintro e w5 ⟨r5, rfl, A5⟩
  have B5 := B4.grown A5.grown N4
  have A45 := A4.trans A5
  have hb5 := Nat.le_trans hb A45.grown.size
  have how5 := A45.own
  have hl5 : (zs ++ [5] ++ beP 8 (rise r) 8).length = zs.length + 9 := by simp [beP_len]
  clear c0 c1 c2 c3 c4 c5 how4 B4 A4 A5
  obtain ⟨c0, c1, c2, c3, c4, c5⟩ := B5.cells
  simp only at c0 c1 c2 c3 c4 c5
  go_wp2_with fail
  refine (hri _).mono ?_
  rintro e w' ⟨rfl, hq⟩
  have hq2 := hq.symm
  subst hq2
  clear hq
  go_wp2_with fail
  refine (appendWord_any _ _ base _ _ hu2 how5 hb5 (by omega)).mono ?_
  rintro e w6 ⟨r6, rfl, A6⟩
  go_wp2_with fail
  go_ret
  refine ⟨_, rfl, ?_⟩
  rw [HE.out]
  simpa using A45.trans A6

set_option maxRecDepth 100000 in
set_option maxHeartbeats 1000000 in
theorem appendItem_text (v : Value) (x : It) (base : Nat) (zs : List Nat) (w : World) (_hx : ItOk x) (hown : OwnB w base v zs) (hb : base ≤ w.heap.size) (hl : zs.length + 2 * x.t.size + 19 ≤ 140737488355328) (h : x.k = 6) :
    Calls Try.prog 18 #[v, valI x] w fun e w' => ∃ r, e = .returned r ∧ App w w' base v r (zs ++ encI x) := by
  have he : encI x = 6 :: body x := by unfold encI; rw [h]; rfl
  unfold body at he
  simp only [h] at he
  have HE := hide_it he
  clear he
  obtain ⟨k, b, n, f, r, i, t⟩ := x
  simp only at h hl
  subst h
  have B0 := BoxI.new w ⟨6, b, n, f, r, i, t⟩
  simp only at B0
  have how0 : OwnB (w.alloc (.cells #[.int .i64 6, .bool b, .int .i64 n, .float .f64 f, .complex .f64 r i, .string t] 29)) base v zs := hown.alloc _
  go_enter Try.func18, Try.ntmps18
  go_wp2_with (at_builtin; refine wpList_append_byte _ rfl _ _ rfl base _ _ rfl how0 6 (by show Value.slice (some ⟨w.heap.size + 1, 0, none⟩) 1 1 = _; simp) (by omega) (by simp; omega) ?_; intro v4 w4 hown4 hg4 hat4; obtain ⟨A4, B4, N4⟩ := step_kind hown B0 hown4 hg4 hat4; have hb4 := Nat.le_trans hb A4.grown.size; have how4 := A4.own; have hl4 : (zs ++ [6]).length = zs.length + 1 := (by simp); obtain ⟨c0, c1, c2, c3, c4, c5⟩ := B4.cells; simp only at c0 c1 c2 c3 c4 c5; clear how0 B0 hown4 hg4 hat4)
  refine (appendText_any _ _ base _ _ how4 hb4 (by omega)).mono ?_
  rintro e w5 ⟨r5, rfl, A5⟩
  go_wp2_with fail
  go_ret
  refine ⟨_, rfl, ?_⟩
  rw [HE.out]
  simpa using A4.trans A5

theorem appendItem_any (v : Value) (x : It) (base : Nat) (zs : List Nat) (w : World) (hx : ItOk x) (mx : may x = true) (hown : OwnB w base v zs) (hb : base ≤ w.heap.size) (hl : zs.length + 2 * x.t.size + 19 ≤ 140737488355328) :
    Calls Try.prog 18 #[v, valI x] w fun e w' => ∃ r, e = .returned r ∧ App w w' base v r (zs ++ encI x) := by
  have hk := may_kind mx
  by_cases h1 : x.k = 1
  · exact appendItem_none v x base zs w hx hown hb hl h1
  by_cases h2 : x.k = 2
  · exact appendItem_bool v x base zs w hx hown hb hl h2
  by_cases h3 : x.k = 3
  · exact appendItem_int v x base zs w hx hown hb hl h3
  by_cases h4 : x.k = 4
  · exact appendItem_float v x base zs w hx hown hb hl h4
  by_cases h5 : x.k = 5
  · exact appendItem_complex v x base zs w hx hown hb hl h5
  · exact appendItem_text v x base zs w hx hown hb hl (by omega)

end Go.Proofs.Ytelcfmjhbjnkoaa
