/- What the document's Check answers. -/
import Derived.Test.YtoindigckfajlabWalk4
import Derived.Test.YtoindigckfajlabReg
namespace Go.Proofs.Ytoindigckfajlab
open Go.RowKit

def goodLow (zs : List Nat) (i : Nat) : Prop := ∀ i', i' < i → ∀ j, j < zs.length → good zs i' j

set_option maxRecDepth 100000 in
set_option maxHeartbeats 1000000 in
theorem rcheck_any (a : Option Addr) (cap : Nat) (zs : List Nat) (w : World) (hr : Row w a zs) (h64 : All64 zs) (hl : zs.length ≤ maxLen) :
    Calls Try.prog 41 #[.slice a zs.length cap] w fun e w' => e = .returned (.int .i64 ((checkOf zs : Nat) : Int)) ∧ Below w.heap.size w w' := by
  have hl' := hl
  unfold maxLen at hl'
  by_cases h0 : zs.length < 1
  · have hv : checkOf zs = 10 := by unfold checkOf; rw [if_pos (.inl h0)]
    rw [hv]
    go_enter Try.func41, Try.ntmps41
    go_wp2
    go_ret
    exact ⟨rfl, Below.refl _ _⟩
  by_cases h16 : 16 < zs.length
  · have hv : checkOf zs = 10 := by unfold checkOf; rw [if_pos (.inr h16)]
    rw [hv]
    go_enter Try.func41, Try.ntmps41
    go_wp2
    go_ret
    exact ⟨rfl, Below.refl _ _⟩
  have hd1 : decide ((zs.length : Int) < 1) = false := by simp; omega
  have hd2 : decide ((16 : Int) < (zs.length : Int)) = false := by simp; omega
  have HV : Hid (checkOf zs = if risesB zs = false then 11 else if closedB zs = false then 12 else 0) := by unfold Hid checkOf; rw [if_neg (by omega)]
  go_enter Try.func41, Try.ntmps41
  go_wp2
  go_loopw [3] (fun i wr => ∃ k : Nat, 1 ≤ k ∧ k ≤ zs.length + 1 ∧ i = .int .i64 k ∧ Hid (risesTo zs k) ∧ Below w.heap.size w wr) (fun i _ => zs.length + 1 - (intOf i).toNat)
  case atStart => exact ⟨1, by omega, by omega, rfl, fun i hi => by omega, Below.refl _ _⟩
  case round =>
    obtain ⟨k, hk1, hk, rfl, hto, hbl⟩ := hrel
    by_cases hlt : k < zs.length
    · obtain ⟨b, o, rfl, _, hc⟩ := (hr.below hbl).here hlt
      have hck := hc k hlt
      have hck1 := hc (k - 1) (by omega)
      clear hc
      obtain ⟨z, hz⟩ : ∃ z, z = at0 zs k := ⟨_, rfl⟩
      obtain ⟨y, hy⟩ : ∃ y, y = at0 zs (k - 1) := ⟨_, rfl⟩
      have HZ : Hid (z = at0 zs k) := hz
      have HY : Hid (y = at0 zs (k - 1)) := hy
      rw [← hz] at hck
      rw [← hy] at hck1
      clear hz hy
      have hi1 : (k : Int) < (zs.length : Int) := by omega
      have hi2 : (k : Int) - 1 < (zs.length : Int) := by omega
      have hi3 : (0 : Int) ≤ (k : Int) - 1 := by omega
      by_cases he : z ≤ y
      · have hd : decide ((z : Int) ≤ (y : Int)) = true := by simpa using he
        go_wp2
        go_quiet (fail)
        go_wp2
        go_ret
        have hz := HZ.out
        have hy := HY.out
        rw [HV.out, if_pos (rises_no hk1 hlt (by omega))]
        exact ⟨rfl, below_drewN hbl _⟩
      · have hd : decide ((z : Int) ≤ (y : Int)) = false := by simp; omega
        go_wp2
        go_quiet (fail)
        go_wp2
        go_roundw
        case rel =>
          have hz := HZ.out
          have hy := HY.out
          exact ⟨k + 1, by omega, by omega, by go_num, risesTo_succ hto hk1 (by omega), below_drewN hbl _⟩
        case measure => simp [intOf]; omega
    · have hR : risesB zs = true := risesB_iff.2 (fun i hi => hto i (by omega))
      have HV2 : Hid (checkOf zs = if closedB zs = false then 12 else 0) := by unfold Hid; rw [HV.out, hR]; rfl
      clear HV hR
      go_wp2
      go_loopw [4] (fun i wr => ∃ k : Nat, k ≤ zs.length ∧ i = .int .i64 k ∧ Hid (goodLow zs k) ∧ Below w.heap.size w wr) (fun i _ => zs.length - (intOf i).toNat)
      case atStart => exact ⟨0, by omega, rfl, fun i hi => by omega, hbl⟩
      case round =>
        clear hbl hto hlt hk hk1
        obtain ⟨k, hk, rfl, hto, hbl⟩ := hrel
        by_cases hlt : k < zs.length
        · go_wp2
          go_loopw [5] (fun i wr => ∃ j : Nat, j ≤ zs.length ∧ i = .int .i64 j ∧ Hid (goodRow zs k j) ∧ Below w.heap.size w wr) (fun i _ => zs.length - (intOf i).toNat)
          case atStart => exact ⟨0, by omega, rfl, fun i hi => by omega, hbl⟩
          case round =>
            clear hbl
            obtain ⟨j, hj, rfl, hrow, hbl⟩ := hrel
            by_cases hjlt : j < zs.length
            · have hrr := hr.below hbl
              obtain ⟨b, o, rfl, hbw, hc⟩ := hrr.here hlt
              have hck := hc k hlt
              have hcj := hc j hjlt
              clear hc
              obtain ⟨x, hx⟩ : ∃ x, x = at0 zs k := ⟨_, rfl⟩
              obtain ⟨y, hy⟩ : ∃ y, y = at0 zs j := ⟨_, rfl⟩
              have HX : Hid (x = at0 zs k) := hx
              have HY : Hid (y = at0 zs j) := hy
              have hx64 : W64 x := hx ▸ h64.at k
              have hy64 : W64 y := hy ▸ h64.at j
              rw [← hx] at hck
              rw [← hy] at hcj
              clear hx hy
              obtain ⟨i1, hi1⟩ : ∃ i1, i1 = idx zs (x ||| y) := ⟨_, rfl⟩
              obtain ⟨i2, hi2⟩ : ∃ i2, i2 = idx zs (x &&& y) := ⟨_, rfl⟩
              have HI1 : Hid (i1 = idx zs (x ||| y)) := hi1
              have HI2 : Hid (i2 = idx zs (x &&& y)) := hi2
              have ht1 := idx_lt (zs := zs) (x := x ||| y)
              have ht2 := idx_lt (zs := zs) (x := x &&& y)
              rw [← hi1] at ht1
              rw [← hi2] at ht2
              clear hi1 hi2
              have hgood : good zs k j ↔ (x ||| y) ∈ zs ∧ (x &&& y) ∈ zs := by unfold good; rw [← HX.out, ← HY.out]
              have HG : Hid (good zs k j ↔ (x ||| y) ∈ zs ∧ (x &&& y) ∈ zs) := hgood
              clear hgood
              by_cases hm1 : (x ||| y) ∈ zs
              · have hf1 : decide (i1 < 0) = false := by rw [ht1]; simp [hm1]
                by_cases hm2 : (x &&& y) ∈ zs
                · have hf2 : decide (i2 < 0) = false := by rw [ht2]; simp [hm2]
                  have hg2 : good zs k j := HG.out.2 ⟨hm1, hm2⟩
                  have HG2 : Hid (good zs k j) := hg2
                  clear ht1 ht2 hm1 hm2 hg2
                  go_wp2
                  refine wp_region_held_drew (S := (fun w' => Row w' (some ⟨b, o, none⟩) zs ∧ Below w.heap.size w w' ∧ w'.cell? ⟨b, o + k, none⟩ = some (.int .u64 (x : Int)) ∧ w'.cell? ⟨b, o + j, none⟩ = some (.int .u64 (y : Int)))) (by kernel_rfl) ?_ (fun hHeld => ?_)
                  · exact ⟨hrr.drew, hbl.drew, hck, hcj⟩
                  refine take_on (i := 0) (v := ?_) rfl rfl (by kernel_rfl) (by kernel_rfl) (by kernel_rfl) (fun _ _ _ h => h) rfl ?_ hHeld ?_
                  rotate_left
                  · (intro wq hSq; obtain ⟨_, _, hq1, hq2⟩ := hSq; go_simp <;> first | with_reducible rfl | rfl)
                  simp only [Act.put, List.setIfInBounds_toArray, List.set_cons_zero, List.set_cons_succ]
                  refine take_on (i := 1) (v := ?_) rfl rfl (by kernel_rfl) (by kernel_rfl) (by kernel_rfl) (fun _ _ _ h => h) rfl ?_ hHeld ?_
                  rotate_left
                  · (intro wq hSq; obtain ⟨_, _, hq1, hq2⟩ := hSq; go_simp <;> first | with_reducible rfl | rfl)
                  simp only [Act.put, List.setIfInBounds_toArray, List.set_cons_zero, List.set_cons_succ]
                  refine take_on (i := 2) (v := ?_) rfl rfl (by kernel_rfl) (by kernel_rfl) (by kernel_rfl) (fun _ _ _ h => h) rfl ?_ hHeld ?_
                  rotate_left
                  · (intro wq hSq; obtain ⟨_, _, hq1, hq2⟩ := hSq; go_simp <;> first | with_reducible rfl | rfl)
                  simp only [Act.put, List.setIfInBounds_toArray, List.set_cons_zero, List.set_cons_succ]
                  refine take_on (i := 3) (v := ?_) rfl rfl (by kernel_rfl) (by kernel_rfl) (by kernel_rfl) (fun _ _ _ h => h) rfl ?_ hHeld ?_
                  rotate_left
                  · (intro wq hSq; obtain ⟨_, _, hq1, hq2⟩ := hSq; go_simp <;> first | with_reducible rfl | rfl)
                  simp only [Act.put, List.setIfInBounds_toArray, List.set_cons_zero, List.set_cons_succ]
                  refine take_on (i := 4) (v := ?_) rfl rfl (by kernel_rfl) (by kernel_rfl) (by kernel_rfl) (fun _ _ _ h => h) rfl ?_ hHeld ?_
                  rotate_left
                  · (intro wq hSq; obtain ⟨_, _, hq1, hq2⟩ := hSq; go_simp <;> first | with_reducible rfl | rfl)
                  simp only [Act.put, List.setIfInBounds_toArray, List.set_cons_zero, List.set_cons_succ]
                  refine take_on (i := 5) (v := ?_) rfl rfl (by kernel_rfl) (by kernel_rfl) (by kernel_rfl) (fun _ _ _ h => h) rfl ?_ hHeld ?_
                  rotate_left
                  · (intro wq hSq; obtain ⟨_, _, hq1, hq2⟩ := hSq; go_simp <;> first | with_reducible rfl | rfl)
                  simp only [Act.put, List.setIfInBounds_toArray, List.set_cons_zero, List.set_cons_succ]
                  refine take_on (i := 6) (v := ?_) rfl rfl (by kernel_rfl) (by kernel_rfl) (by kernel_rfl) (fun _ _ _ h => h) rfl ?_ hHeld ?_
                  rotate_left
                  · (intro wq hSq; obtain ⟨_, _, hq1, hq2⟩ := hSq; go_simp <;> first | with_reducible rfl | rfl)
                  simp only [Act.put, List.setIfInBounds_toArray, List.set_cons_zero, List.set_cons_succ]
                  refine take_on (i := 7) (v := ?_) rfl rfl (by kernel_rfl) (by kernel_rfl) (by kernel_rfl) (fun _ _ _ h => h) rfl ?_ hHeld ?_
                  rotate_left
                  · (intro wq hSq; obtain ⟨_, _, hq1, hq2⟩ := hSq; go_simp <;> first | with_reducible rfl | rfl)
                  simp only [Act.put, List.setIfInBounds_toArray, List.set_cons_zero, List.set_cons_succ]
                  refine take_on (i := 8) (v := ?_) rfl rfl (by kernel_rfl) (by kernel_rfl) (by kernel_rfl) (fun _ _ _ h => h) rfl ?_ hHeld ?_
                  rotate_left
                  · (intro wq hSq; obtain ⟨_, _, hq1, hq2⟩ := hSq; go_simp <;> first | with_reducible rfl | rfl)
                  simp only [Act.put, List.setIfInBounds_toArray, List.set_cons_zero, List.set_cons_succ]
                  refine take_one (i := 9) rfl (by kernel_rfl) (fun K hK => ?_)
                  go_simp
                  refine (rjoin_any _ _ _ hx64 hy64).mono ?_; rintro e w1 ⟨rfl, hb1⟩
                  try go_wp2_with fail
                  refine hK.out _ _ ?_ (fun hHeld => ?_)
                  · exact ⟨hHeld.1.below hb1, hHeld.2.1.trans (hb1.mono hHeld.2.1.size), (hb1.cell (p := ⟨b, o + k, none⟩) hbw).trans hHeld.2.2.1, (hb1.cell (p := ⟨b, o + j, none⟩) hbw).trans hHeld.2.2.2⟩
                  clear hK K
                  try simp only [Act.put, List.setIfInBounds_toArray, List.set_cons_zero, List.set_cons_succ]
                  refine take_one (i := 10) rfl (by kernel_rfl) (fun K hK => ?_)
                  go_simp
                  refine (rplace_any _ _ _ _ _ hHeld.1 hl).mono ?_; rintro e w2 ⟨rfl, rfl⟩; rw [← HI1.out]
                  try go_wp2_with fail
                  refine hK.out _ _ ?_ (fun hHeld => ?_)
                  · exact hHeld
                  clear hK K
                  try simp only [Act.put, List.setIfInBounds_toArray, List.set_cons_zero, List.set_cons_succ]
                  refine take_on (i := 11) (v := ?_) rfl rfl (by kernel_rfl) (by kernel_rfl) (by kernel_rfl) (fun _ _ _ h => h) rfl ?_ hHeld ?_
                  rotate_left
                  · (intro wq hSq; obtain ⟨_, _, hq1, hq2⟩ := hSq; go_simp <;> first | with_reducible rfl | rfl)
                  simp only [Act.put, List.setIfInBounds_toArray, List.set_cons_zero, List.set_cons_succ]
                  refine take_on (i := 12) (v := ?_) rfl rfl (by kernel_rfl) (by kernel_rfl) (by kernel_rfl) (fun _ _ _ h => h) rfl ?_ hHeld ?_
                  rotate_left
                  · (intro wq hSq; obtain ⟨_, _, hq1, hq2⟩ := hSq; go_simp <;> first | with_reducible rfl | rfl)
                  simp only [Act.put, List.setIfInBounds_toArray, List.set_cons_zero, List.set_cons_succ]
                  refine take_on (i := 13) (v := ?_) rfl rfl (by kernel_rfl) (by kernel_rfl) (by kernel_rfl) (fun _ _ _ h => h) rfl ?_ hHeld ?_
                  rotate_left
                  · (intro wq hSq; obtain ⟨_, _, hq1, hq2⟩ := hSq; go_simp <;> first | with_reducible rfl | rfl)
                  simp only [Act.put, List.setIfInBounds_toArray, List.set_cons_zero, List.set_cons_succ]
                  refine take_on (i := 14) (v := ?_) rfl rfl (by kernel_rfl) (by kernel_rfl) (by kernel_rfl) (fun _ _ _ h => h) rfl ?_ hHeld ?_
                  rotate_left
                  · (intro wq hSq; obtain ⟨_, _, hq1, hq2⟩ := hSq; go_simp <;> first | with_reducible rfl | rfl)
                  simp only [Act.put, List.setIfInBounds_toArray, List.set_cons_zero, List.set_cons_succ]
                  refine take_on (i := 15) (v := ?_) rfl rfl (by kernel_rfl) (by kernel_rfl) (by kernel_rfl) (fun _ _ _ h => h) rfl ?_ hHeld ?_
                  rotate_left
                  · (intro wq hSq; obtain ⟨_, _, hq1, hq2⟩ := hSq; go_simp <;> first | with_reducible rfl | rfl)
                  simp only [Act.put, List.setIfInBounds_toArray, List.set_cons_zero, List.set_cons_succ]
                  refine take_on (i := 16) (v := ?_) rfl rfl (by kernel_rfl) (by kernel_rfl) (by kernel_rfl) (fun _ _ _ h => h) rfl ?_ hHeld ?_
                  rotate_left
                  · (intro wq hSq; obtain ⟨_, _, hq1, hq2⟩ := hSq; go_simp <;> first | with_reducible rfl | rfl)
                  simp only [Act.put, List.setIfInBounds_toArray, List.set_cons_zero, List.set_cons_succ]
                  refine take_on (i := 17) (v := ?_) rfl rfl (by kernel_rfl) (by kernel_rfl) (by kernel_rfl) (fun _ _ _ h => h) rfl ?_ hHeld ?_
                  rotate_left
                  · (intro wq hSq; obtain ⟨_, _, hq1, hq2⟩ := hSq; go_simp <;> first | with_reducible rfl | rfl)
                  simp only [Act.put, List.setIfInBounds_toArray, List.set_cons_zero, List.set_cons_succ]
                  refine take_on (i := 18) (v := ?_) rfl rfl (by kernel_rfl) (by kernel_rfl) (by kernel_rfl) (fun _ _ _ h => h) rfl ?_ hHeld ?_
                  rotate_left
                  · (intro wq hSq; obtain ⟨_, _, hq1, hq2⟩ := hSq; go_simp <;> first | with_reducible rfl | rfl)
                  simp only [Act.put, List.setIfInBounds_toArray, List.set_cons_zero, List.set_cons_succ]
                  refine take_on (i := 19) (v := ?_) rfl rfl (by kernel_rfl) (by kernel_rfl) (by kernel_rfl) (fun _ _ _ h => h) rfl ?_ hHeld ?_
                  rotate_left
                  · (intro wq hSq; obtain ⟨_, _, hq1, hq2⟩ := hSq; go_simp <;> first | with_reducible rfl | rfl)
                  simp only [Act.put, List.setIfInBounds_toArray, List.set_cons_zero, List.set_cons_succ]
                  refine take_on (i := 20) (v := ?_) rfl rfl (by kernel_rfl) (by kernel_rfl) (by kernel_rfl) (fun _ _ _ h => h) rfl ?_ hHeld ?_
                  rotate_left
                  · (intro wq hSq; obtain ⟨_, _, hq1, hq2⟩ := hSq; go_simp <;> first | with_reducible rfl | rfl)
                  simp only [Act.put, List.setIfInBounds_toArray, List.set_cons_zero, List.set_cons_succ]
                  refine take_on (i := 21) (v := ?_) rfl rfl (by kernel_rfl) (by kernel_rfl) (by kernel_rfl) (fun _ _ _ h => h) rfl ?_ hHeld ?_
                  rotate_left
                  · (intro wq hSq; obtain ⟨_, _, hq1, hq2⟩ := hSq; go_simp <;> first | with_reducible rfl | rfl)
                  simp only [Act.put, List.setIfInBounds_toArray, List.set_cons_zero, List.set_cons_succ]
                  refine take_one (i := 22) rfl (by kernel_rfl) (fun K hK => ?_)
                  go_simp
                  refine (rmeet_any _ _ _ hx64 hy64).mono ?_; rintro e w3 ⟨rfl, hb3⟩
                  try go_wp2_with fail
                  refine hK.out _ _ ?_ (fun hHeld => ?_)
                  · exact ⟨hHeld.1.below hb3, hHeld.2.1.trans (hb3.mono hHeld.2.1.size), (hb3.cell (p := ⟨b, o + k, none⟩) (Nat.lt_of_lt_of_le hbw hb1.size)).trans hHeld.2.2.1, (hb3.cell (p := ⟨b, o + j, none⟩) (Nat.lt_of_lt_of_le hbw hb1.size)).trans hHeld.2.2.2⟩
                  clear hK K
                  try simp only [Act.put, List.setIfInBounds_toArray, List.set_cons_zero, List.set_cons_succ]
                  refine take_one (i := 23) rfl (by kernel_rfl) (fun K hK => ?_)
                  go_simp
                  refine (rplace_any _ _ _ _ _ hHeld.1 hl).mono ?_; rintro e w4 ⟨rfl, rfl⟩; rw [← HI2.out]
                  try go_wp2_with fail
                  refine hK.out _ _ ?_ (fun hHeld => ?_)
                  · exact hHeld
                  clear hK K
                  try simp only [Act.put, List.setIfInBounds_toArray, List.set_cons_zero, List.set_cons_succ]
                  refine take_on (i := 24) (v := ?_) rfl rfl (by kernel_rfl) (by kernel_rfl) (by kernel_rfl) (fun _ _ _ h => h) rfl ?_ hHeld ?_
                  rotate_left
                  · (intro wq hSq; obtain ⟨_, _, hq1, hq2⟩ := hSq; go_simp <;> first | with_reducible rfl | rfl)
                  simp only [Act.put, List.setIfInBounds_toArray, List.set_cons_zero, List.set_cons_succ]
                  refine take_on (i := 25) (v := ?_) rfl rfl (by kernel_rfl) (by kernel_rfl) (by kernel_rfl) (fun _ _ _ h => h) rfl ?_ hHeld ?_
                  rotate_left
                  · (intro wq hSq; obtain ⟨_, _, hq1, hq2⟩ := hSq; go_simp <;> first | with_reducible rfl | rfl)
                  simp only [Act.put, List.setIfInBounds_toArray, List.set_cons_zero, List.set_cons_succ]
                  refine wpAnyH_done (by kernel_rfl) ?_ _
                  go_wp2
                  go_roundw
                  case rel => exact ⟨j + 1, by omega, by go_num, goodRow_succ hrow HG2.out, hHeld.2.1⟩
                  case measure => simp [intOf]; omega
                · have hf2 : decide (i2 < 0) = true := by rw [ht2]; simp [hm2]
                  have hno : checkOf zs = 12 := by
                    rw [HV2.out, closed_no hlt hjlt (fun hg => hm2 (HG.out.1 hg).2)]; rfl
                  have HNO : Hid (checkOf zs = 12) := hno
                  clear ht1 ht2 hm1 hm2 hno
                  go_wp2
                  refine wp_region_held_drew (S := (fun w' => Row w' (some ⟨b, o, none⟩) zs ∧ Below w.heap.size w w' ∧ w'.cell? ⟨b, o + k, none⟩ = some (.int .u64 (x : Int)) ∧ w'.cell? ⟨b, o + j, none⟩ = some (.int .u64 (y : Int)))) (by kernel_rfl) ?_ (fun hHeld => ?_)
                  · exact ⟨hrr.drew, hbl.drew, hck, hcj⟩
                  refine take_on (i := 0) (v := ?_) rfl rfl (by kernel_rfl) (by kernel_rfl) (by kernel_rfl) (fun _ _ _ h => h) rfl ?_ hHeld ?_
                  rotate_left
                  · (intro wq hSq; obtain ⟨_, _, hq1, hq2⟩ := hSq; go_simp <;> first | with_reducible rfl | rfl)
                  simp only [Act.put, List.setIfInBounds_toArray, List.set_cons_zero, List.set_cons_succ]
                  refine take_on (i := 1) (v := ?_) rfl rfl (by kernel_rfl) (by kernel_rfl) (by kernel_rfl) (fun _ _ _ h => h) rfl ?_ hHeld ?_
                  rotate_left
                  · (intro wq hSq; obtain ⟨_, _, hq1, hq2⟩ := hSq; go_simp <;> first | with_reducible rfl | rfl)
                  simp only [Act.put, List.setIfInBounds_toArray, List.set_cons_zero, List.set_cons_succ]
                  refine take_on (i := 2) (v := ?_) rfl rfl (by kernel_rfl) (by kernel_rfl) (by kernel_rfl) (fun _ _ _ h => h) rfl ?_ hHeld ?_
                  rotate_left
                  · (intro wq hSq; obtain ⟨_, _, hq1, hq2⟩ := hSq; go_simp <;> first | with_reducible rfl | rfl)
                  simp only [Act.put, List.setIfInBounds_toArray, List.set_cons_zero, List.set_cons_succ]
                  refine take_on (i := 3) (v := ?_) rfl rfl (by kernel_rfl) (by kernel_rfl) (by kernel_rfl) (fun _ _ _ h => h) rfl ?_ hHeld ?_
                  rotate_left
                  · (intro wq hSq; obtain ⟨_, _, hq1, hq2⟩ := hSq; go_simp <;> first | with_reducible rfl | rfl)
                  simp only [Act.put, List.setIfInBounds_toArray, List.set_cons_zero, List.set_cons_succ]
                  refine take_on (i := 4) (v := ?_) rfl rfl (by kernel_rfl) (by kernel_rfl) (by kernel_rfl) (fun _ _ _ h => h) rfl ?_ hHeld ?_
                  rotate_left
                  · (intro wq hSq; obtain ⟨_, _, hq1, hq2⟩ := hSq; go_simp <;> first | with_reducible rfl | rfl)
                  simp only [Act.put, List.setIfInBounds_toArray, List.set_cons_zero, List.set_cons_succ]
                  refine take_on (i := 5) (v := ?_) rfl rfl (by kernel_rfl) (by kernel_rfl) (by kernel_rfl) (fun _ _ _ h => h) rfl ?_ hHeld ?_
                  rotate_left
                  · (intro wq hSq; obtain ⟨_, _, hq1, hq2⟩ := hSq; go_simp <;> first | with_reducible rfl | rfl)
                  simp only [Act.put, List.setIfInBounds_toArray, List.set_cons_zero, List.set_cons_succ]
                  refine take_on (i := 6) (v := ?_) rfl rfl (by kernel_rfl) (by kernel_rfl) (by kernel_rfl) (fun _ _ _ h => h) rfl ?_ hHeld ?_
                  rotate_left
                  · (intro wq hSq; obtain ⟨_, _, hq1, hq2⟩ := hSq; go_simp <;> first | with_reducible rfl | rfl)
                  simp only [Act.put, List.setIfInBounds_toArray, List.set_cons_zero, List.set_cons_succ]
                  refine take_on (i := 7) (v := ?_) rfl rfl (by kernel_rfl) (by kernel_rfl) (by kernel_rfl) (fun _ _ _ h => h) rfl ?_ hHeld ?_
                  rotate_left
                  · (intro wq hSq; obtain ⟨_, _, hq1, hq2⟩ := hSq; go_simp <;> first | with_reducible rfl | rfl)
                  simp only [Act.put, List.setIfInBounds_toArray, List.set_cons_zero, List.set_cons_succ]
                  refine take_on (i := 8) (v := ?_) rfl rfl (by kernel_rfl) (by kernel_rfl) (by kernel_rfl) (fun _ _ _ h => h) rfl ?_ hHeld ?_
                  rotate_left
                  · (intro wq hSq; obtain ⟨_, _, hq1, hq2⟩ := hSq; go_simp <;> first | with_reducible rfl | rfl)
                  simp only [Act.put, List.setIfInBounds_toArray, List.set_cons_zero, List.set_cons_succ]
                  refine take_one (i := 9) rfl (by kernel_rfl) (fun K hK => ?_)
                  go_simp
                  refine (rjoin_any _ _ _ hx64 hy64).mono ?_; rintro e w1 ⟨rfl, hb1⟩
                  try go_wp2_with fail
                  refine hK.out _ _ ?_ (fun hHeld => ?_)
                  · exact ⟨hHeld.1.below hb1, hHeld.2.1.trans (hb1.mono hHeld.2.1.size), (hb1.cell (p := ⟨b, o + k, none⟩) hbw).trans hHeld.2.2.1, (hb1.cell (p := ⟨b, o + j, none⟩) hbw).trans hHeld.2.2.2⟩
                  clear hK K
                  try simp only [Act.put, List.setIfInBounds_toArray, List.set_cons_zero, List.set_cons_succ]
                  refine take_one (i := 10) rfl (by kernel_rfl) (fun K hK => ?_)
                  go_simp
                  refine (rplace_any _ _ _ _ _ hHeld.1 hl).mono ?_; rintro e w2 ⟨rfl, rfl⟩; rw [← HI1.out]
                  try go_wp2_with fail
                  refine hK.out _ _ ?_ (fun hHeld => ?_)
                  · exact hHeld
                  clear hK K
                  try simp only [Act.put, List.setIfInBounds_toArray, List.set_cons_zero, List.set_cons_succ]
                  refine take_on (i := 11) (v := ?_) rfl rfl (by kernel_rfl) (by kernel_rfl) (by kernel_rfl) (fun _ _ _ h => h) rfl ?_ hHeld ?_
                  rotate_left
                  · (intro wq hSq; obtain ⟨_, _, hq1, hq2⟩ := hSq; go_simp <;> first | with_reducible rfl | rfl)
                  simp only [Act.put, List.setIfInBounds_toArray, List.set_cons_zero, List.set_cons_succ]
                  refine take_on (i := 12) (v := ?_) rfl rfl (by kernel_rfl) (by kernel_rfl) (by kernel_rfl) (fun _ _ _ h => h) rfl ?_ hHeld ?_
                  rotate_left
                  · (intro wq hSq; obtain ⟨_, _, hq1, hq2⟩ := hSq; go_simp <;> first | with_reducible rfl | rfl)
                  simp only [Act.put, List.setIfInBounds_toArray, List.set_cons_zero, List.set_cons_succ]
                  refine take_on (i := 13) (v := ?_) rfl rfl (by kernel_rfl) (by kernel_rfl) (by kernel_rfl) (fun _ _ _ h => h) rfl ?_ hHeld ?_
                  rotate_left
                  · (intro wq hSq; obtain ⟨_, _, hq1, hq2⟩ := hSq; go_simp <;> first | with_reducible rfl | rfl)
                  simp only [Act.put, List.setIfInBounds_toArray, List.set_cons_zero, List.set_cons_succ]
                  refine take_on (i := 14) (v := ?_) rfl rfl (by kernel_rfl) (by kernel_rfl) (by kernel_rfl) (fun _ _ _ h => h) rfl ?_ hHeld ?_
                  rotate_left
                  · (intro wq hSq; obtain ⟨_, _, hq1, hq2⟩ := hSq; go_simp <;> first | with_reducible rfl | rfl)
                  simp only [Act.put, List.setIfInBounds_toArray, List.set_cons_zero, List.set_cons_succ]
                  refine take_on (i := 15) (v := ?_) rfl rfl (by kernel_rfl) (by kernel_rfl) (by kernel_rfl) (fun _ _ _ h => h) rfl ?_ hHeld ?_
                  rotate_left
                  · (intro wq hSq; obtain ⟨_, _, hq1, hq2⟩ := hSq; go_simp <;> first | with_reducible rfl | rfl)
                  simp only [Act.put, List.setIfInBounds_toArray, List.set_cons_zero, List.set_cons_succ]
                  refine take_on (i := 16) (v := ?_) rfl rfl (by kernel_rfl) (by kernel_rfl) (by kernel_rfl) (fun _ _ _ h => h) rfl ?_ hHeld ?_
                  rotate_left
                  · (intro wq hSq; obtain ⟨_, _, hq1, hq2⟩ := hSq; go_simp <;> first | with_reducible rfl | rfl)
                  simp only [Act.put, List.setIfInBounds_toArray, List.set_cons_zero, List.set_cons_succ]
                  refine take_on (i := 17) (v := ?_) rfl rfl (by kernel_rfl) (by kernel_rfl) (by kernel_rfl) (fun _ _ _ h => h) rfl ?_ hHeld ?_
                  rotate_left
                  · (intro wq hSq; obtain ⟨_, _, hq1, hq2⟩ := hSq; go_simp <;> first | with_reducible rfl | rfl)
                  simp only [Act.put, List.setIfInBounds_toArray, List.set_cons_zero, List.set_cons_succ]
                  refine take_on (i := 18) (v := ?_) rfl rfl (by kernel_rfl) (by kernel_rfl) (by kernel_rfl) (fun _ _ _ h => h) rfl ?_ hHeld ?_
                  rotate_left
                  · (intro wq hSq; obtain ⟨_, _, hq1, hq2⟩ := hSq; go_simp <;> first | with_reducible rfl | rfl)
                  simp only [Act.put, List.setIfInBounds_toArray, List.set_cons_zero, List.set_cons_succ]
                  refine take_on (i := 19) (v := ?_) rfl rfl (by kernel_rfl) (by kernel_rfl) (by kernel_rfl) (fun _ _ _ h => h) rfl ?_ hHeld ?_
                  rotate_left
                  · (intro wq hSq; obtain ⟨_, _, hq1, hq2⟩ := hSq; go_simp <;> first | with_reducible rfl | rfl)
                  simp only [Act.put, List.setIfInBounds_toArray, List.set_cons_zero, List.set_cons_succ]
                  refine take_on (i := 20) (v := ?_) rfl rfl (by kernel_rfl) (by kernel_rfl) (by kernel_rfl) (fun _ _ _ h => h) rfl ?_ hHeld ?_
                  rotate_left
                  · (intro wq hSq; obtain ⟨_, _, hq1, hq2⟩ := hSq; go_simp <;> first | with_reducible rfl | rfl)
                  simp only [Act.put, List.setIfInBounds_toArray, List.set_cons_zero, List.set_cons_succ]
                  refine take_on (i := 21) (v := ?_) rfl rfl (by kernel_rfl) (by kernel_rfl) (by kernel_rfl) (fun _ _ _ h => h) rfl ?_ hHeld ?_
                  rotate_left
                  · (intro wq hSq; obtain ⟨_, _, hq1, hq2⟩ := hSq; go_simp <;> first | with_reducible rfl | rfl)
                  simp only [Act.put, List.setIfInBounds_toArray, List.set_cons_zero, List.set_cons_succ]
                  refine take_one (i := 22) rfl (by kernel_rfl) (fun K hK => ?_)
                  go_simp
                  refine (rmeet_any _ _ _ hx64 hy64).mono ?_; rintro e w3 ⟨rfl, hb3⟩
                  try go_wp2_with fail
                  refine hK.out _ _ ?_ (fun hHeld => ?_)
                  · exact ⟨hHeld.1.below hb3, hHeld.2.1.trans (hb3.mono hHeld.2.1.size), (hb3.cell (p := ⟨b, o + k, none⟩) (Nat.lt_of_lt_of_le hbw hb1.size)).trans hHeld.2.2.1, (hb3.cell (p := ⟨b, o + j, none⟩) (Nat.lt_of_lt_of_le hbw hb1.size)).trans hHeld.2.2.2⟩
                  clear hK K
                  try simp only [Act.put, List.setIfInBounds_toArray, List.set_cons_zero, List.set_cons_succ]
                  refine take_one (i := 23) rfl (by kernel_rfl) (fun K hK => ?_)
                  go_simp
                  refine (rplace_any _ _ _ _ _ hHeld.1 hl).mono ?_; rintro e w4 ⟨rfl, rfl⟩; rw [← HI2.out]
                  try go_wp2_with fail
                  refine hK.out _ _ ?_ (fun hHeld => ?_)
                  · exact hHeld
                  clear hK K
                  try simp only [Act.put, List.setIfInBounds_toArray, List.set_cons_zero, List.set_cons_succ]
                  refine take_on (i := 24) (v := ?_) rfl rfl (by kernel_rfl) (by kernel_rfl) (by kernel_rfl) (fun _ _ _ h => h) rfl ?_ hHeld ?_
                  rotate_left
                  · (intro wq hSq; obtain ⟨_, _, hq1, hq2⟩ := hSq; go_simp <;> first | with_reducible rfl | rfl)
                  simp only [Act.put, List.setIfInBounds_toArray, List.set_cons_zero, List.set_cons_succ]
                  refine take_on (i := 25) (v := ?_) rfl rfl (by kernel_rfl) (by kernel_rfl) (by kernel_rfl) (fun _ _ _ h => h) rfl ?_ hHeld ?_
                  rotate_left
                  · (intro wq hSq; obtain ⟨_, _, hq1, hq2⟩ := hSq; go_simp <;> first | with_reducible rfl | rfl)
                  simp only [Act.put, List.setIfInBounds_toArray, List.set_cons_zero, List.set_cons_succ]
                  refine wpAnyH_done (by kernel_rfl) ?_ _
                  go_wp2
                  go_ret
                  rw [HNO.out]
                  exact ⟨rfl, hHeld.2.1⟩
              · have hno : checkOf zs = 12 := by
                  rw [HV2.out, closed_no hlt hjlt (fun hg => hm1 (HG.out.1 hg).1)]; rfl
                have HNO : Hid (checkOf zs = 12) := hno
                have hf1 : decide (i1 < 0) = true := by rw [ht1]; simp [hm1]
                clear ht1 ht2 hno hm1
                go_wp2
                refine wp_region_held_drew (S := (fun w' => Row w' (some ⟨b, o, none⟩) zs ∧ Below w.heap.size w w' ∧ w'.cell? ⟨b, o + k, none⟩ = some (.int .u64 (x : Int)) ∧ w'.cell? ⟨b, o + j, none⟩ = some (.int .u64 (y : Int)))) (by kernel_rfl) ?_ (fun hHeld => ?_)
                · exact ⟨hrr.drew, hbl.drew, hck, hcj⟩
                refine take_on (i := 0) (v := ?_) rfl rfl (by kernel_rfl) (by kernel_rfl) (by kernel_rfl) (fun _ _ _ h => h) rfl ?_ hHeld ?_
                rotate_left
                · (intro wq hSq; obtain ⟨_, _, hq1, hq2⟩ := hSq; go_simp <;> first | with_reducible rfl | rfl)
                simp only [Act.put, List.setIfInBounds_toArray, List.set_cons_zero, List.set_cons_succ]
                refine take_on (i := 1) (v := ?_) rfl rfl (by kernel_rfl) (by kernel_rfl) (by kernel_rfl) (fun _ _ _ h => h) rfl ?_ hHeld ?_
                rotate_left
                · (intro wq hSq; obtain ⟨_, _, hq1, hq2⟩ := hSq; go_simp <;> first | with_reducible rfl | rfl)
                simp only [Act.put, List.setIfInBounds_toArray, List.set_cons_zero, List.set_cons_succ]
                refine take_on (i := 2) (v := ?_) rfl rfl (by kernel_rfl) (by kernel_rfl) (by kernel_rfl) (fun _ _ _ h => h) rfl ?_ hHeld ?_
                rotate_left
                · (intro wq hSq; obtain ⟨_, _, hq1, hq2⟩ := hSq; go_simp <;> first | with_reducible rfl | rfl)
                simp only [Act.put, List.setIfInBounds_toArray, List.set_cons_zero, List.set_cons_succ]
                refine take_on (i := 3) (v := ?_) rfl rfl (by kernel_rfl) (by kernel_rfl) (by kernel_rfl) (fun _ _ _ h => h) rfl ?_ hHeld ?_
                rotate_left
                · (intro wq hSq; obtain ⟨_, _, hq1, hq2⟩ := hSq; go_simp <;> first | with_reducible rfl | rfl)
                simp only [Act.put, List.setIfInBounds_toArray, List.set_cons_zero, List.set_cons_succ]
                refine take_on (i := 4) (v := ?_) rfl rfl (by kernel_rfl) (by kernel_rfl) (by kernel_rfl) (fun _ _ _ h => h) rfl ?_ hHeld ?_
                rotate_left
                · (intro wq hSq; obtain ⟨_, _, hq1, hq2⟩ := hSq; go_simp <;> first | with_reducible rfl | rfl)
                simp only [Act.put, List.setIfInBounds_toArray, List.set_cons_zero, List.set_cons_succ]
                refine take_on (i := 5) (v := ?_) rfl rfl (by kernel_rfl) (by kernel_rfl) (by kernel_rfl) (fun _ _ _ h => h) rfl ?_ hHeld ?_
                rotate_left
                · (intro wq hSq; obtain ⟨_, _, hq1, hq2⟩ := hSq; go_simp <;> first | with_reducible rfl | rfl)
                simp only [Act.put, List.setIfInBounds_toArray, List.set_cons_zero, List.set_cons_succ]
                refine take_on (i := 6) (v := ?_) rfl rfl (by kernel_rfl) (by kernel_rfl) (by kernel_rfl) (fun _ _ _ h => h) rfl ?_ hHeld ?_
                rotate_left
                · (intro wq hSq; obtain ⟨_, _, hq1, hq2⟩ := hSq; go_simp <;> first | with_reducible rfl | rfl)
                simp only [Act.put, List.setIfInBounds_toArray, List.set_cons_zero, List.set_cons_succ]
                refine take_on (i := 7) (v := ?_) rfl rfl (by kernel_rfl) (by kernel_rfl) (by kernel_rfl) (fun _ _ _ h => h) rfl ?_ hHeld ?_
                rotate_left
                · (intro wq hSq; obtain ⟨_, _, hq1, hq2⟩ := hSq; go_simp <;> first | with_reducible rfl | rfl)
                simp only [Act.put, List.setIfInBounds_toArray, List.set_cons_zero, List.set_cons_succ]
                refine take_on (i := 8) (v := ?_) rfl rfl (by kernel_rfl) (by kernel_rfl) (by kernel_rfl) (fun _ _ _ h => h) rfl ?_ hHeld ?_
                rotate_left
                · (intro wq hSq; obtain ⟨_, _, hq1, hq2⟩ := hSq; go_simp <;> first | with_reducible rfl | rfl)
                simp only [Act.put, List.setIfInBounds_toArray, List.set_cons_zero, List.set_cons_succ]
                refine take_one (i := 9) rfl (by kernel_rfl) (fun K hK => ?_)
                go_simp
                refine (rjoin_any _ _ _ hx64 hy64).mono ?_; rintro e w1 ⟨rfl, hb1⟩
                try go_wp2_with fail
                refine hK.out _ _ ?_ (fun hHeld => ?_)
                · exact ⟨hHeld.1.below hb1, hHeld.2.1.trans (hb1.mono hHeld.2.1.size), (hb1.cell (p := ⟨b, o + k, none⟩) hbw).trans hHeld.2.2.1, (hb1.cell (p := ⟨b, o + j, none⟩) hbw).trans hHeld.2.2.2⟩
                clear hK K
                try simp only [Act.put, List.setIfInBounds_toArray, List.set_cons_zero, List.set_cons_succ]
                refine take_one (i := 10) rfl (by kernel_rfl) (fun K hK => ?_)
                go_simp
                refine (rplace_any _ _ _ _ _ hHeld.1 hl).mono ?_; rintro e w2 ⟨rfl, rfl⟩; rw [← HI1.out]
                try go_wp2_with fail
                refine hK.out _ _ ?_ (fun hHeld => ?_)
                · exact hHeld
                clear hK K
                try simp only [Act.put, List.setIfInBounds_toArray, List.set_cons_zero, List.set_cons_succ]
                refine take_on (i := 11) (v := ?_) rfl rfl (by kernel_rfl) (by kernel_rfl) (by kernel_rfl) (fun _ _ _ h => h) rfl ?_ hHeld ?_
                rotate_left
                · (intro wq hSq; obtain ⟨_, _, hq1, hq2⟩ := hSq; go_simp <;> first | with_reducible rfl | rfl)
                simp only [Act.put, List.setIfInBounds_toArray, List.set_cons_zero, List.set_cons_succ]
                refine take_on (i := 12) (v := ?_) rfl rfl (by kernel_rfl) (by kernel_rfl) (by kernel_rfl) (fun _ _ _ h => h) rfl ?_ hHeld ?_
                rotate_left
                · (intro wq hSq; obtain ⟨_, _, hq1, hq2⟩ := hSq; go_simp <;> first | with_reducible rfl | rfl)
                simp only [Act.put, List.setIfInBounds_toArray, List.set_cons_zero, List.set_cons_succ]
                refine take_off (i := 13) rfl rfl (by kernel_rfl) (by kernel_rfl) (by kernel_rfl) (fun _ _ _ h => h) rfl hHeld ?_
                simp only [Act.put, List.setIfInBounds_toArray, List.set_cons_zero, List.set_cons_succ]
                refine take_off (i := 14) rfl rfl (by kernel_rfl) (by kernel_rfl) (by kernel_rfl) (fun _ _ _ h => h) rfl hHeld ?_
                simp only [Act.put, List.setIfInBounds_toArray, List.set_cons_zero, List.set_cons_succ]
                refine take_off (i := 15) rfl rfl (by kernel_rfl) (by kernel_rfl) (by kernel_rfl) (fun _ _ _ h => h) rfl hHeld ?_
                simp only [Act.put, List.setIfInBounds_toArray, List.set_cons_zero, List.set_cons_succ]
                refine take_off (i := 16) rfl rfl (by kernel_rfl) (by kernel_rfl) (by kernel_rfl) (fun _ _ _ h => h) rfl hHeld ?_
                simp only [Act.put, List.setIfInBounds_toArray, List.set_cons_zero, List.set_cons_succ]
                refine take_off (i := 17) rfl rfl (by kernel_rfl) (by kernel_rfl) (by kernel_rfl) (fun _ _ _ h => h) rfl hHeld ?_
                simp only [Act.put, List.setIfInBounds_toArray, List.set_cons_zero, List.set_cons_succ]
                refine take_off (i := 18) rfl rfl (by kernel_rfl) (by kernel_rfl) (by kernel_rfl) (fun _ _ _ h => h) rfl hHeld ?_
                simp only [Act.put, List.setIfInBounds_toArray, List.set_cons_zero, List.set_cons_succ]
                refine take_off (i := 19) rfl rfl (by kernel_rfl) (by kernel_rfl) (by kernel_rfl) (fun _ _ _ h => h) rfl hHeld ?_
                simp only [Act.put, List.setIfInBounds_toArray, List.set_cons_zero, List.set_cons_succ]
                refine take_off (i := 20) rfl rfl (by kernel_rfl) (by kernel_rfl) (by kernel_rfl) (fun _ _ _ h => h) rfl hHeld ?_
                simp only [Act.put, List.setIfInBounds_toArray, List.set_cons_zero, List.set_cons_succ]
                refine take_off (i := 21) rfl rfl (by kernel_rfl) (by kernel_rfl) (by kernel_rfl) (fun _ _ _ h => h) rfl hHeld ?_
                simp only [Act.put, List.setIfInBounds_toArray, List.set_cons_zero, List.set_cons_succ]
                refine take_off (i := 22) rfl rfl (by kernel_rfl) (by kernel_rfl) (by kernel_rfl) (fun _ _ _ h => h) rfl hHeld ?_
                simp only [Act.put, List.setIfInBounds_toArray, List.set_cons_zero, List.set_cons_succ]
                refine take_off (i := 23) rfl rfl (by kernel_rfl) (by kernel_rfl) (by kernel_rfl) (fun _ _ _ h => h) rfl hHeld ?_
                simp only [Act.put, List.setIfInBounds_toArray, List.set_cons_zero, List.set_cons_succ]
                refine take_off (i := 24) rfl rfl (by kernel_rfl) (by kernel_rfl) (by kernel_rfl) (fun _ _ _ h => h) rfl hHeld ?_
                simp only [Act.put, List.setIfInBounds_toArray, List.set_cons_zero, List.set_cons_succ]
                refine take_on (i := 25) (v := ?_) rfl rfl (by kernel_rfl) (by kernel_rfl) (by kernel_rfl) (fun _ _ _ h => h) rfl ?_ hHeld ?_
                rotate_left
                · (intro wq hSq; obtain ⟨_, _, hq1, hq2⟩ := hSq; go_simp <;> first | with_reducible rfl | rfl)
                simp only [Act.put, List.setIfInBounds_toArray, List.set_cons_zero, List.set_cons_succ]
                refine wpAnyH_done (by kernel_rfl) ?_ _
                go_wp2
                go_ret
                rw [HNO.out]
                exact ⟨rfl, hHeld.2.1⟩
            · go_wp2
              go_roundw
              case rel =>
                have he : j = zs.length := by omega
                subst he
                refine ⟨k + 1, by omega, by go_num, ?_, hbl⟩
                intro i hi j' hj'
                by_cases e : i = k
                · subst e; exact hrow j' hj'
                · exact hto i (by omega) j' hj'
              case measure => simp [intOf]; omega
        · go_wp2
          go_ret
          have he : k = zs.length := by omega
          subst he
          have hcl : closedB zs = true := closedB_iff.2 (fun i j hi hj => hto i hi j hj)
          have hv : checkOf zs = 0 := by rw [HV2.out, hcl]; rfl
          rw [hv]
          exact ⟨rfl, hbl⟩

end Go.Proofs.Ytoindigckfajlab
