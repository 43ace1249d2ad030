/- That LabelMay answers true of every config. -/
import Derived.Test.YtlogemklballiabMay3
import Derived.Test.YtlogemklballiabOpenC
namespace Go.Proofs.Ytlogemklballiab.labelMay
open Go.RowKit

/-- What stands through the law's last statement. -/
def SQ (W : World) (p q : Nat) (u0 u1 u2 x0 x1 x2 : Value) (w' : World) : Prop :=
  Below W.heap.size W w' ∧ w'.cell? ⟨p, 0, none⟩ = some u0 ∧ w'.cell? ⟨p, 1, none⟩ = some u1 ∧ w'.cell? ⟨p, 2, none⟩ = some u2 ∧ w'.cell? ⟨q, 0, none⟩ = some x0 ∧ w'.cell? ⟨q, 1, none⟩ = some x1 ∧ w'.cell? ⟨q, 2, none⟩ = some x2
theorem SQ.next {W : World} {p q : Nat} {u0 u1 u2 x0 x1 x2 : Value} {w1 w2 : World} (h : SQ W p q u0 u1 u2 x0 x1 x2 w1) (hp : p < W.heap.size) (hq : q < W.heap.size) (hb : Below w1.heap.size w1 w2) : SQ W p q u0 u1 u2 x0 x1 x2 w2 := by
  obtain ⟨h1, a0, a1, a2, b0, b1, b2⟩ := h
  have lp : p < w1.heap.size := Nat.lt_of_lt_of_le hp h1.size
  have lq : q < w1.heap.size := Nat.lt_of_lt_of_le hq h1.size
  exact ⟨h1.trans (hb.mono h1.size), (hb.cell (p := ⟨p, 0, none⟩) lp).trans a0, (hb.cell (p := ⟨p, 1, none⟩) lp).trans a1, (hb.cell (p := ⟨p, 2, none⟩) lp).trans a2,
    (hb.cell (p := ⟨q, 0, none⟩) lq).trans b0, (hb.cell (p := ⟨q, 1, none⟩) lq).trans b1, (hb.cell (p := ⟨q, 2, none⟩) lq).trans b2⟩

theorem same_may {p : Prop} {u v : Bool} (hu : u = true ↔ p) (hv : v = true ↔ p) : u = v := by
  cases u <;> cases v
  · rfl
  · exact absurd (hu.2 (hv.1 rfl)) (by decide)
  · exact absurd (hv.2 (hu.1 rfl)) (by decide)
  · rfl

def oneA (_ j : Nat) : Int := if j = 0 then 1 else 0
def oneS (_ : Nat) : Int := 0
theorem oneMay : MayP [5] 1 oneA 1 oneS := ⟨by decide, rfl, by omega, fun i _ => by show accOk (fun j => if j = 0 then 1 else 0) = true; decide, fun i _ => by show win 0 _ = true; decide⟩
theorem all5 : All64 [5] := fun z hz => by simp at hz; subst hz; unfold W64; omega

theorem row_one (w : World) : Row (w.alloc (.cells #[.int .u64 5] 30)) (some ⟨w.heap.size, 0, none⟩) [5] :=
  .inr ⟨w.heap.size, 0, rfl, by simp, fun i hi => by
    have h0 : i = 0 := by simpa using hi
    subst h0
    rw [cell_of_row _ _ _ _ _ _ (heap_alloc_new w _)]; rfl⟩
theorem rowA_one (w : World) : RowA (w.alloc (.cells #[.int .i64 1, .int .i64 0, .int .i64 0, .int .i64 0, .int .i64 0] 43)) (some ⟨w.heap.size, 0, none⟩) 1 oneA :=
  .inr ⟨w.heap.size, 0, rfl, by simp, fun i hi j hj => by
    have h0 : i = 0 := by omega
    subst h0
    rw [cell_of_row _ _ _ _ _ _ (heap_alloc_new w _)]
    match j, hj with
    | 0, _ => rfl
    | 1, _ => rfl
    | 2, _ => rfl
    | 3, _ => rfl
    | 4, _ => rfl⟩
theorem rowZ_one (w : World) : RowZ (w.alloc (.cells #[.int .i64 0] 3)) (some ⟨w.heap.size, 0, none⟩) 1 oneS :=
  .inr ⟨w.heap.size, 0, rfl, by simp, fun i hi => by
    have h0 : i = 0 := by omega
    subst h0
    rw [cell_of_row _ _ _ _ _ _ (heap_alloc_new w _)]; rfl⟩
theorem three_new (w : World) (x y z : Value) (t : TypeId) : (w.alloc (.cells #[x, y, z] t)).cell? ⟨w.heap.size, 0, none⟩ = some x ∧ (w.alloc (.cells #[x, y, z] t)).cell? ⟨w.heap.size, 1, none⟩ = some y ∧ (w.alloc (.cells #[x, y, z] t)).cell? ⟨w.heap.size, 2, none⟩ = some z := by
  refine ⟨?_, ?_, ?_⟩ <;> rw [cell_of_row _ _ _ _ _ _ (heap_alloc_new w _)] <;> rfl
theorem three_old {w w' : World} {p : Nat} {x y z : Value} (hb : Below w.heap.size w w') (hp : p < w.heap.size) (h : w.cell? ⟨p, 0, none⟩ = some x ∧ w.cell? ⟨p, 1, none⟩ = some y ∧ w.cell? ⟨p, 2, none⟩ = some z) : w'.cell? ⟨p, 0, none⟩ = some x ∧ w'.cell? ⟨p, 1, none⟩ = some y ∧ w'.cell? ⟨p, 2, none⟩ = some z :=
  ⟨(hb.cell (p := ⟨p, 0, none⟩) hp).trans h.1, (hb.cell (p := ⟨p, 1, none⟩) hp).trans h.2.1, (hb.cell (p := ⟨p, 2, none⟩) hp).trans h.2.2⟩
theorem below_new (w : World) (o : Obj) : Below w.heap.size w (w.alloc o) := (Below.refl _ _).alloc (Nat.le_refl _) _

set_option maxRecDepth 100000 in
set_option maxHeartbeats 2000000 in
theorem walk (a b c : Option Addr) (ca cb cc n k : Nat) (zs : List Nat) (A : Nat → Nat → Int) (S : Nat → Int) (w : World) (h : CameC w a b c ca cb cc n k zs A S) : Calls Try.prog 5 #[.agg #[.slice a zs.length ca, .slice b n cb, .slice c k cc]] w fun e w' => e = .returned (.bool true) ∧ Below w.heap.size w w' := by
  have hmx : zs.length ≤ maxLen := Nat.le_trans h.lab.fits h.lab.capm
  have hnm : n ≤ maxLen := by have := h.accs; unfold maxLen; omega
  have hkm : k ≤ maxLen := by have := h.sess; unfold maxLen; omega
  obtain ⟨W1, hW1⟩ : ∃ W1, W1 = w.alloc (.cells #[.slice a zs.length ca, .slice b n cb, .slice c k cc] 41) := ⟨_, rfl⟩
  obtain ⟨W2, hW2⟩ : ∃ W2, W2 = W1.alloc (.cells #[.int .u64 5] 30) := ⟨_, rfl⟩
  obtain ⟨W3, hW3⟩ : ∃ W3, W3 = W2.alloc (.cells #[.int .i64 1, .int .i64 0, .int .i64 0, .int .i64 0, .int .i64 0] 43) := ⟨_, rfl⟩
  obtain ⟨W4, hW4⟩ : ∃ W4, W4 = W3.alloc (.cells #[.int .i64 0] 3) := ⟨_, rfl⟩
  obtain ⟨W5, hW5⟩ : ∃ W5, W5 = W4.alloc (.cells #[.slice (some ⟨w.heap.size + 1, 0, none⟩) 1 1, .slice (some ⟨w.heap.size + 1 + 1, 0, none⟩) 1 1, .slice (some ⟨w.heap.size + 1 + 1 + 1, 0, none⟩) 1 1] 41) := ⟨_, rfl⟩
  have s1 : W1.heap.size = w.heap.size + 1 := by rw [hW1]; simp
  have s2 : W2.heap.size = w.heap.size + 1 + 1 := by rw [hW2]; simp [s1]
  have s3 : W3.heap.size = w.heap.size + 1 + 1 + 1 := by rw [hW3]; simp [s2]
  have s4 : W4.heap.size = w.heap.size + 1 + 1 + 1 + 1 := by rw [hW4]; simp [s3]
  have s5 : W5.heap.size = w.heap.size + 1 + 1 + 1 + 1 + 1 := by rw [hW5]; simp [s4]
  have b1 : Below w.heap.size w W1 := by rw [hW1]; exact below_new _ _
  have b2 : Below W1.heap.size W1 W2 := by rw [hW2]; exact below_new _ _
  have b3 : Below W2.heap.size W2 W3 := by rw [hW3]; exact below_new _ _
  have b4 : Below W3.heap.size W3 W4 := by rw [hW4]; exact below_new _ _
  have b5 : Below W4.heap.size W4 W5 := by rw [hW5]; exact below_new _ _
  have d4 : Below W3.heap.size W3 W5 := b4.trans (b5.mono (by omega))
  have d3 : Below W2.heap.size W2 W5 := b3.trans (d4.mono (by omega))
  have d2 : Below W1.heap.size W1 W5 := b2.trans (d3.mono (by omega))
  have d1 : Below w.heap.size w W5 := b1.trans (d2.mono (by omega))
  have hp := three_old d2 (p := w.heap.size) (by omega) (by rw [hW1]; exact three_new w _ _ _ _)
  have ho : W5.cell? ⟨w.heap.size + 1 + 1 + 1 + 1, 0, none⟩ = some (.slice (some ⟨w.heap.size + 1, 0, none⟩) 1 1) ∧ W5.cell? ⟨w.heap.size + 1 + 1 + 1 + 1, 1, none⟩ = some (.slice (some ⟨w.heap.size + 1 + 1, 0, none⟩) 1 1) ∧ W5.cell? ⟨w.heap.size + 1 + 1 + 1 + 1, 2, none⟩ = some (.slice (some ⟨w.heap.size + 1 + 1 + 1, 0, none⟩) 1 1) := by
    have := three_new W4 (.slice (some ⟨w.heap.size + 1, 0, none⟩) 1 1) (.slice (some ⟨w.heap.size + 1 + 1, 0, none⟩) 1 1) (.slice (some ⟨w.heap.size + 1 + 1 + 1, 0, none⟩) 1 1) 41
    rw [← hW5, s4] at this; exact this
  have hr5 := h.lab.row.below d1
  have hA5 := h.acc.below d1
  have hS5 := h.ses.below d1
  have hL5 : Row W5 (some ⟨w.heap.size + 1, 0, none⟩) [5] := by
    have := row_one W1
    rw [← hW2, s1] at this; exact this.below d3
  have hB5 : RowA W5 (some ⟨w.heap.size + 1 + 1, 0, none⟩) 1 oneA := by
    have := rowA_one W2
    rw [← hW3, s2] at this; exact this.below d4
  have hZ5 : RowZ W5 (some ⟨w.heap.size + 1 + 1 + 1, 0, none⟩) 1 oneS := by
    have := rowZ_one W3
    rw [← hW4, s3] at this; exact this.below b5
  have HW : Hid (W5 = (((((w.alloc (.cells #[.slice a zs.length ca, .slice b n cb, .slice c k cc] 41)).alloc (.cells #[.int .u64 5] 30)).alloc (.cells #[.int .i64 1, .int .i64 0, .int .i64 0, .int .i64 0, .int .i64 0] 43)).alloc (.cells #[.int .i64 0] 3)).alloc (.cells #[.slice (some ⟨w.heap.size + 1, 0, none⟩) 1 1, .slice (some ⟨w.heap.size + 1 + 1, 0, none⟩) 1 1, .slice (some ⟨w.heap.size + 1 + 1 + 1, 0, none⟩) 1 1] 41))) := by unfold Hid; rw [hW5, hW4, hW3, hW2, hW1]
  clear hW1 hW2 hW3 hW4 hW5 b1 b2 b3 b4 b5 d2 d3 d4 s1 s2 s3 s4
  go_enter Try.func5, Try.ntmps5
  go_wp2_with fail
  rw [← HW.out]
  clear HW
  refine wp_region_held_drew (S := SQ W5 w.heap.size (w.heap.size + 1 + 1 + 1 + 1) (.slice a zs.length ca) (.slice b n cb) (.slice c k cc) (.slice (some ⟨w.heap.size + 1, 0, none⟩) 1 1) (.slice (some ⟨w.heap.size + 1 + 1, 0, none⟩) 1 1) (.slice (some ⟨w.heap.size + 1 + 1 + 1, 0, none⟩) 1 1)) (by kernel_rfl) ?_ (fun hHeld => ?_)
  · exact ⟨(Below.refl _ _).drew, hp.1, hp.2.1, hp.2.2, ho.1, ho.2.1, ho.2.2⟩
  refine take_on (i := 0) (v := ?_) rfl rfl (by kernel_rfl) (by kernel_rfl) (by kernel_rfl) (fun _ _ _ h => h) rfl ?_ hHeld ?_
  rotate_left
  · (intro wq hSq; obtain ⟨_, hq1, hq2, hq3, hq4, hq5, hq6⟩ := hSq; go_simp <;> first | with_reducible rfl | rfl)
  simp only [Act.put, List.setIfInBounds_toArray, List.set_cons_zero, List.set_cons_succ]
  refine take_on (i := 2) (v := ?_) rfl rfl (by kernel_rfl) (by kernel_rfl) (by kernel_rfl) (fun _ _ _ h => h) rfl ?_ hHeld ?_
  rotate_left
  · (intro wq hSq; obtain ⟨_, hq1, hq2, hq3, hq4, hq5, hq6⟩ := hSq; go_simp <;> first | with_reducible rfl | rfl)
  simp only [Act.put, List.setIfInBounds_toArray, List.set_cons_zero, List.set_cons_succ]
  refine take_one (i := 1) rfl (by kernel_rfl) (fun K hK => ?_)
  go_simp
  refine (may_any a b c ca cb cc n k zs A S _ (hr5.below hHeld.1) h.lab.all hmx h.lab.fits (hA5.below hHeld.1) hnm (hS5.below hHeld.1) hkm).mono ?_; rintro e w1 ⟨⟨v1, rfl, hv1⟩, hb1⟩
  try go_wp2_with fail
  refine hK.out _ _ ?_ (fun hHeld => ?_)
  · exact hHeld.next (by omega) (by omega) hb1
  clear hK K
  try simp only [Act.put, List.setIfInBounds_toArray, List.set_cons_zero, List.set_cons_succ]
  refine take_one (i := 3) rfl (by kernel_rfl) (fun K hK => ?_)
  go_simp
  refine (config_any a b c ca cb cc n k zs A S _ (hr5.below hHeld.1) (by have := h.lab.size; omega) (hA5.below hHeld.1) h.accs (hS5.below hHeld.1) h.none h.sess).mono ?_; rintro e w2 ⟨⟨a2, b2, c2, ca2, cb2, cc2, rfl, hra, hrA, hrz⟩, hb2⟩
  try go_wp2_with fail
  refine hK.out _ _ ?_ (fun hHeld => ?_)
  · exact hHeld.next (by omega) (by omega) hb2
  clear hK K
  try simp only [Act.put, List.setIfInBounds_toArray, List.set_cons_zero, List.set_cons_succ]
  refine take_one (i := 4) rfl (by kernel_rfl) (fun K hK => ?_)
  go_simp
  refine (rmay_any a2 b2 c2 ca2 cb2 cc2 n k zs A S _ hra h.lab.all hmx hrA hrz).mono ?_; rintro e w3 ⟨⟨v2, rfl, hv2⟩, hb3⟩; obtain rfl : v2 = v1 := same_may hv2 hv1; clear hv1 hv2
  try go_wp2_with fail
  refine hK.out _ _ ?_ (fun hHeld => ?_)
  · exact hHeld.next (by omega) (by omega) hb3
  clear hK K
  try simp only [Act.put, List.setIfInBounds_toArray, List.set_cons_zero, List.set_cons_succ]
  refine take_on (i := 5) (v := ?_) rfl rfl (by kernel_rfl) (by kernel_rfl) (by kernel_rfl) (fun _ _ _ h => h) rfl ?_ hHeld ?_
  rotate_left
  · (intro wq hSq; obtain ⟨_, hq1, hq2, hq3, hq4, hq5, hq6⟩ := hSq; go_simp <;> first | with_reducible rfl | rfl)
  simp only [Act.put, List.setIfInBounds_toArray, List.set_cons_zero, List.set_cons_succ]
  refine take_on (i := 6) (v := ?_) rfl rfl (by kernel_rfl) (by kernel_rfl) (by kernel_rfl) (fun _ _ _ h => h) rfl ?_ hHeld ?_
  rotate_left
  · (intro wq hSq; obtain ⟨_, hq1, hq2, hq3, hq4, hq5, hq6⟩ := hSq; go_simp <;> first | with_reducible rfl | rfl)
  simp only [Act.put, List.setIfInBounds_toArray, List.set_cons_zero, List.set_cons_succ]
  refine take_on (i := 7) (v := ?_) rfl rfl (by kernel_rfl) (by kernel_rfl) (by kernel_rfl) (fun _ _ _ h => h) rfl ?_ hHeld ?_
  rotate_left
  · (intro wq hSq; obtain ⟨_, hq1, hq2, hq3, hq4, hq5, hq6⟩ := hSq; go_simp <;> first | with_reducible rfl | rfl)
  simp only [Act.put, List.setIfInBounds_toArray, List.set_cons_zero, List.set_cons_succ]
  refine take_one (i := 8) rfl (by kernel_rfl) (fun K hK => ?_)
  go_simp
  refine (may_any (some ⟨w.heap.size + 1, 0, none⟩) (some ⟨w.heap.size + 1 + 1, 0, none⟩) (some ⟨w.heap.size + 1 + 1 + 1, 0, none⟩) 1 1 1 1 1 [5] oneA oneS _ (hL5.below hHeld.1) all5 (by unfold maxLen; decide) (by decide) (hB5.below hHeld.1) (by unfold maxLen; omega) (hZ5.below hHeld.1) (by unfold maxLen; omega)).mono ?_; rintro e w4 ⟨⟨v3, rfl, hv3⟩, hb4⟩; obtain rfl : v3 = true := hv3.2 oneMay; clear hv3
  try go_wp2_with fail
  refine hK.out _ _ ?_ (fun hHeld => ?_)
  · exact hHeld.next (by omega) (by omega) hb4
  clear hK K
  try simp only [Act.put, List.setIfInBounds_toArray, List.set_cons_zero, List.set_cons_succ]
  refine take_on (i := 9) (v := ?_) rfl rfl (by kernel_rfl) (by kernel_rfl) (by kernel_rfl) (fun _ _ _ h => h) rfl ?_ hHeld ?_
  rotate_left
  · (intro wq hSq; obtain ⟨_, hq1, hq2, hq3, hq4, hq5, hq6⟩ := hSq; go_simp <;> first | with_reducible rfl | rfl)
  simp only [Act.put, List.setIfInBounds_toArray, List.set_cons_zero, List.set_cons_succ]
  refine take_on (i := 10) (v := ?_) rfl rfl (by kernel_rfl) (by kernel_rfl) (by kernel_rfl) (fun _ _ _ h => h) rfl ?_ hHeld ?_
  rotate_left
  · (intro wq hSq; obtain ⟨_, hq1, hq2, hq3, hq4, hq5, hq6⟩ := hSq; go_simp <;> first | with_reducible rfl | rfl)
  simp only [Act.put, List.setIfInBounds_toArray, List.set_cons_zero, List.set_cons_succ]
  refine wpAnyH_done (by kernel_rfl) ?_ _
  go_wp2
  go_ret
  exact ⟨rfl, d1.trans (hHeld.1.mono d1.size)⟩

end Go.Proofs.Ytlogemklballiab.labelMay
