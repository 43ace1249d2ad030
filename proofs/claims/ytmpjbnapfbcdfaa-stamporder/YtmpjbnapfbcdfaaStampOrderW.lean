/- The law on Below as an order, walked. -/
import Derived.Test.YtmpjbnapfbcdfaaCk4
import Derived.Test.YtmpjbnapfbcdfaaOpenIn
namespace Go.Proofs.Ytmpjbnapfbcdfaa
open Go.RowKit
theorem under_refl (xs : List Int) : under xs xs := ⟨rfl, fun _ _ => Int.le_refl _⟩
theorem under_trans {xs ys zs : List Int} (h : under xs ys) (k : under ys zs) : under xs zs := ⟨h.1.trans k.1, fun i hi => Int.le_trans (h.2 i hi) (k.2 i (by rw [← h.1]; exact hi))⟩
theorem under_anti {xs ys : List Int} (h : under xs ys) (k : under ys xs) : xs = ys := eq_of_atI h.1 fun i hi => Int.le_antisymm (h.2 i hi) (k.2 i (by rw [← h.1]; exact hi))
theorem underB_iff {xs ys : List Int} : underB xs ys = true ↔ under xs ys := by unfold underB; simp

set_option maxRecDepth 100000 in
set_option maxHeartbeats 400000 in
/-- Below of copies of two lists. -/
theorem both_copied (a : Option Addr) (ca : Nat) (xs : List Int) (w : World) (ha : CameI w a ca xs) : Calls Try.prog 25 #[.slice a xs.length ca] w fun e w' => (∃ r, e = .returned r ∧ OwI w' w.heap.size r xs) ∧ Below w.heap.size w w' :=
  copied_any a ca xs w ha.row (by have := ha.size; omega) ha.none
end Go.Proofs.Ytmpjbnapfbcdfaa
namespace Go.Proofs.Ytmpjbnapfbcdfaa.stampOrder
open Go.RowKit

theorem pure_order (xs ys zs : List Int) : (underB xs ys && underB ys zs && !underB xs zs) = false ∧ ((underB xs ys && underB ys xs) == decide (xs = ys)) = true := by
  constructor
  · cases h1 : underB xs ys <;> cases h2 : underB ys zs <;> try rfl
    have := under_trans (underB_iff.1 h1) (underB_iff.1 h2)
    rw [underB_iff.2 this]; rfl
  · by_cases e : xs = ys
    · subst e
      rw [underB_iff.2 (under_refl xs)]; simp
    · cases h1 : underB xs ys <;> cases h2 : underB ys xs <;> try (simp [e])
      exact e (under_anti (underB_iff.1 h1) (underB_iff.1 h2))

set_option maxRecDepth 100000 in
set_option maxHeartbeats 2000000 in
theorem walk (a : Option Addr) (ca : Nat) (xs : List Int) (b : Option Addr) (cb : Nat) (ys : List Int) (c : Option Addr) (cc : Nat) (zs : List Int) (w : World) (ha : CameI w a ca xs) (hb : CameI w b cb ys) (hc : CameI w c cc zs) :
    Calls Try.prog 7 #[.slice a xs.length ca, .slice b ys.length cb, .slice c zs.length cc] w fun e w' => e = .returned (.bool true) ∧ Below w.heap.size w w' := by
  have hxl : xs.length ≤ 4611686018427387904 := by have := ha.size; omega
  have hyl : ys.length ≤ 4611686018427387904 := by have := hb.size; omega
  have hP := hide_it (pure_order xs ys zs)
  have step : ∀ (pa : Option Addr) (ka : Nat) (us : List Int) (pb : Option Addr) (kb : Nat) (vs : List Int) (W : World), CameI W pa ka us → CameI W pb kb vs → us.length ≤ 4611686018427387904 → ∀ r1 W1, OwI W1 W.heap.size r1 us → Below W.heap.size W W1 → ∀ r2 W2, OwI W2 W1.heap.size r2 vs → Below W1.heap.size W1 W2 →
      ∃ p1 q1 p2 q2, r1 = .slice p1 us.length q1 ∧ r2 = .slice p2 vs.length q2 ∧ Calls Try.prog 27 #[.slice p1 us.length q1, .slice p2 vs.length q2] W2 fun e w' => e = .returned (.bool (underB us vs)) ∧ Below W2.heap.size W2 w' := by
    intro pa ka us pb kb vs W _ _ hl r1 W1 o1 _ r2 W2 o2 b2
    obtain ⟨p1, q1, e1, hp1, _⟩ := (o1.below b2).row
    obtain ⟨p2, q2, e2, hp2, _⟩ := o2.row
    exact ⟨p1, q1, p2, q2, e1, e2, below_any p1 p2 q1 q2 us vs W2 hp1 hp2 hl⟩
  go_enter Try.func7, Try.ntmps7
  go_wp2_with fail
  refine (head_any _).mono ?_
  rintro e w0 ⟨rfl, bb⟩
  have A0 := ha.below bb
  have B0 := hb.below bb
  have C0 := hc.below bb
  have zz := bb.size
  have HB := hide_it bb
  clear bb ha hb hc
  have hk := both_copied a ca xs w0 A0
  go_wp2_with fail
  refine hk.mono ?_
  rintro e w1 ⟨⟨r1, rfl, o1⟩, b1⟩
  clear hk
  have hk := both_copied b cb ys w1 (B0.below b1)
  go_wp2_with fail
  refine hk.mono ?_
  rintro e w2 ⟨⟨r2, rfl, o2⟩, b2⟩
  clear hk
  obtain ⟨p1, q1, p2, q2, rfl, rfl, hk⟩ := step a ca xs b cb ys w0 A0 B0 hxl _ w1 o1 b1 _ w2 o2 b2
  have bt0 := b1.trans (b2.mono b1.size)
  clear o1 o2 b1 b2
  go_wp2_with fail
  refine hk.mono ?_
  rintro e w3 ⟨rfl, b3⟩
  clear hk
  have bu0 := bt0.trans (b3.mono bt0.size)
  have A3 := A0.below bu0
  have B3 := B0.below bu0
  have C3 := C0.below bu0
  replace HB := hide_it (HB.out.trans (bu0.mono zz))
  replace zz := HB.out.size
  clear bt0 bu0 b3 A0 B0 C0
  have hk := both_copied b cb ys w3 B3
  go_wp2_with fail
  refine hk.mono ?_
  rintro e w4 ⟨⟨r4, rfl, o4⟩, b4⟩
  clear hk
  have hk := both_copied a ca xs w4 (A3.below b4)
  go_wp2_with fail
  refine hk.mono ?_
  rintro e w5 ⟨⟨r5, rfl, o5⟩, b5⟩
  clear hk
  obtain ⟨p4, q4, p5, q5, rfl, rfl, hk⟩ := step b cb ys a ca xs w3 B3 A3 hyl _ w4 o4 b4 _ w5 o5 b5
  have bt3 := b4.trans (b5.mono b4.size)
  clear o4 o5 b4 b5
  go_wp2_with fail
  refine hk.mono ?_
  rintro e w6 ⟨rfl, b6⟩
  clear hk
  have bu3 := bt3.trans (b6.mono bt3.size)
  have A6 := A3.below bu3
  have B6 := B3.below bu3
  have C6 := C3.below bu3
  replace HB := hide_it (HB.out.trans (bu3.mono zz))
  replace zz := HB.out.size
  clear bt3 bu3 b6 A3 B3 C3
  have hk := both_copied b cb ys w6 B6
  go_wp2_with fail
  refine hk.mono ?_
  rintro e w7 ⟨⟨r7, rfl, o7⟩, b7⟩
  clear hk
  have hk := both_copied c cc zs w7 (C6.below b7)
  go_wp2_with fail
  refine hk.mono ?_
  rintro e w8 ⟨⟨r8, rfl, o8⟩, b8⟩
  clear hk
  obtain ⟨p7, q7, p8, q8, rfl, rfl, hk⟩ := step b cb ys c cc zs w6 B6 C6 hyl _ w7 o7 b7 _ w8 o8 b8
  have bt6 := b7.trans (b8.mono b7.size)
  clear o7 o8 b7 b8
  go_wp2_with fail
  refine hk.mono ?_
  rintro e w9 ⟨rfl, b9⟩
  clear hk
  have bu6 := bt6.trans (b9.mono bt6.size)
  have A9 := A6.below bu6
  have B9 := B6.below bu6
  have C9 := C6.below bu6
  replace HB := hide_it (HB.out.trans (bu6.mono zz))
  replace zz := HB.out.size
  clear bt6 bu6 b9 A6 B6 C6
  have hk := both_copied a ca xs w9 A9
  go_wp2_with fail
  refine hk.mono ?_
  rintro e w10 ⟨⟨r10, rfl, o10⟩, b10⟩
  clear hk
  have hk := both_copied c cc zs w10 (C9.below b10)
  go_wp2_with fail
  refine hk.mono ?_
  rintro e w11 ⟨⟨r11, rfl, o11⟩, b11⟩
  clear hk
  obtain ⟨p10, q10, p11, q11, rfl, rfl, hk⟩ := step a ca xs c cc zs w9 A9 C9 hxl _ w10 o10 b10 _ w11 o11 b11
  have bt9 := b10.trans (b11.mono b10.size)
  clear o10 o11 b10 b11
  go_wp2_with fail
  refine hk.mono ?_
  rintro e w12 ⟨rfl, b12⟩
  clear hk
  have bu9 := bt9.trans (b12.mono bt9.size)
  have A12 := A9.below bu9
  have B12 := B9.below bu9
  have C12 := C9.below bu9
  replace HB := hide_it (HB.out.trans (bu9.mono zz))
  replace zz := HB.out.size
  clear bt9 bu9 b12 A9 B9 C9
  have hk := both_copied a ca xs w12 A12
  go_wp2_with fail
  refine hk.mono ?_
  rintro e w13 ⟨⟨r13, rfl, o13⟩, b13⟩
  clear hk
  have hk := both_copied a ca xs w13 (A12.below b13)
  go_wp2_with fail
  refine hk.mono ?_
  rintro e w14 ⟨⟨r14, rfl, o14⟩, b14⟩
  clear hk
  obtain ⟨p13, q13, p14, q14, rfl, rfl, hk⟩ := step a ca xs a ca xs w12 A12 A12 hxl _ w13 o13 b13 _ w14 o14 b14
  have bt12 := b13.trans (b14.mono b13.size)
  clear o13 o14 b13 b14
  go_wp2_with fail
  refine hk.mono ?_
  rintro e w15 ⟨rfl, b15⟩
  clear hk
  have bu12 := bt12.trans (b15.mono bt12.size)
  have A15 := A12.below bu12
  have B15 := B12.below bu12
  have C15 := C12.below bu12
  replace HB := hide_it (HB.out.trans (bu12.mono zz))
  replace zz := HB.out.size
  clear bt12 bu12 b15 A12 B12 C12
  rw [underB_iff.2 (under_refl xs)]
  generalize HUa : underB xs ys = U1 at *
  generalize HUb : underB ys xs = U2 at *
  generalize HUc : underB ys zs = U3 at *
  generalize HUd : underB xs zs = U4 at *
  clear HUa HUb HUc HUd
  have hsm := same_any a b ca cb xs ys w15 A15.row B15.row hxl
  have hP1 := hP.out.1
  have hP2 := hide_it hP.out.2
  clear A15 B15 C15 hP step
  cases U1 <;> cases U2 <;> cases U3 <;> cases U4 <;> try (simp at hP1)
  all_goals
    clear hP1
    go_wp2_with (refine hsm.mono ?_; rintro e w16 ⟨rfl, b16⟩)
    go_ret
    refine ⟨?_, HB.out.trans (b16.mono zz)⟩
    have := hP2.out
    first | rfl | (simp at this; simp [this])
end Go.Proofs.Ytmpjbnapfbcdfaa.stampOrder
