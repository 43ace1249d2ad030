/- The document's Heights, walked. -/
import Derived.Test.YthclmkmajlinhabHg4
import Derived.Test.YthclmkmajlinhabReg
namespace Go.Proofs.Ythclmkmajlinhab
open Go.RowKit

/-- How far the heights are from 65, all together. -/
def sumD (m : Nat) (h : Nat → Nat) : Nat := ((List.range m).map fun i => 65 - h i).sum
theorem sumD_succ (m : Nat) (h : Nat → Nat) : sumD (m + 1) h = sumD m h + (65 - h m) := by simp [sumD, List.range_succ]
theorem sumD_congr {m : Nat} {h h' : Nat → Nat} (he : ∀ i, i < m → h i = h' i) : sumD m h = sumD m h' := by
  unfold sumD
  rw [List.map_congr_left (fun i hi => by rw [he i (List.mem_range.1 hi)])]
theorem sumD_lt {m p x : Nat} {h : Nat → Nat} (hp : p < m) (hx : h p < x) (h65 : x ≤ 65) : sumD m (updN h p x) < sumD m h := by
  induction m with
  | zero => omega
  | succ m ih =>
    rw [sumD_succ, sumD_succ]
    by_cases e : p = m
    · subst e
      have h1 : sumD p (updN h p x) = sumD p h := sumD_congr (fun i hi => by unfold updN; rw [if_neg (by omega)])
      have h2 : updN h p x p = x := by unfold updN; rw [if_pos rfl]
      rw [h1, h2]; omega
    · have h1 := ih (by omega)
      have h2 : updN h p x m = h m := by unfold updN; rw [if_neg (by omega)]
      rw [h2]; omega
/-- The same, read off the memory. -/
def cellN (w : World) (g i : Nat) : Nat := match w.cell? ⟨g, i, none⟩ with | some (.int _ q) => q.toNat | _ => 0
def meas (w : World) (g m : Nat) : Nat := sumD m (cellN w g)
theorem meas_row {w : World} {g m : Nat} {h : Nat → Nat} (H : IRow w g m h) : meas w g m = sumD m h := sumD_congr fun i hi => by
  unfold cellN; rw [H.cell hi]; simp
def bN : Value → Nat | .bool true => 1 | _ => 0

/-- No height is too great. -/
def Lo (S : List Nat) (h : Nat → Nat) : Prop := ∀ i, i < S.length → h i ≤ hgt S (at0 S i)
/-- The pairs ahead of (p, q) are as they should be. -/
def Ok (S : List Nat) (h : Nat → Nat) (p q : Nat) : Prop := ∀ i j, i < S.length → j < S.length → (i < p ∨ i = p ∧ j < q) → bel (at0 S j) (at0 S i) = true → h j + 1 ≤ h i
/-- What stands in the midst of a turn that began with h0. -/
structure Mid (S : List Nat) (h0 h : Nat → Nat) (c : Bool) (p q : Nat) : Prop where
  lo : Lo S h
  le : sumD S.length h ≤ sumD S.length h0
  lt : c = true → sumD S.length h < sumD S.length h0
  ok : c = false → Ok S h p q
theorem Mid.start {S : List Nat} {h : Nat → Nat} (hl : Lo S h) : Mid S h h false 0 0 := ⟨hl, Nat.le_refl _, (fun e => by cases e), (fun _ i j _ _ hor => by omega)⟩
theorem Mid.next {S : List Nat} {h0 h : Nat → Nat} {c : Bool} {p : Nat} (H : Mid S h0 h c p S.length) : Mid S h0 h c (p + 1) 0 :=
  ⟨H.lo, H.le, H.lt, fun e i j hi hj hor hb => H.ok e i j hi hj (by omega) hb⟩
theorem Mid.pass {S : List Nat} {h0 h : Nat → Nat} {c : Bool} {p q : Nat} (H : Mid S h0 h c p q) (hk : bel (at0 S q) (at0 S p) = true → h q + 1 ≤ h p) : Mid S h0 h c p (q + 1) :=
  ⟨H.lo, H.le, H.lt, fun e i j hi hj hor hb => by
    by_cases e2 : i = p ∧ j = q
    · obtain ⟨rfl, rfl⟩ := e2; exact hk hb
    · exact H.ok e i j hi hj (by omega) hb⟩
theorem Mid.raise {S : List Nat} (h64 : All64 S) {h0 h : Nat → Nat} {c : Bool} {p q : Nat} (H : Mid S h0 h c p q) (hp : p < S.length) (hq : q < S.length) (hb : bel (at0 S q) (at0 S p) = true) (hlt : h p < h q + 1) : Mid S h0 (updN h p (h q + 1)) true p (q + 1) := by
  have h1 := H.lo q hq
  have h2 := hgt_ge (at0_mem hq) hb
  have h3 := hgt_64 h64 (h64.at p)
  have h4 := sumD_lt (h := h) hp hlt (by omega)
  have h5 := H.le
  refine ⟨fun i hi => ?_, by omega, fun _ => by omega, fun e => by cases e⟩
  unfold updN
  by_cases e : i = p
  · subst e; rw [if_pos rfl]; omega
  · rw [if_neg e]; exact H.lo i hi
theorem ok_end {S : List Nat} {h : Nat → Nat} (hl : Lo S h) (ho : Ok S h S.length 0) : ∀ i, i < S.length → h i = hgt S (at0 S i) := by
  have key : ∀ x i, i < S.length → at0 S i = x → hgt S x ≤ h i := by
    intro x
    induction x using Nat.strongRecOn with
    | ind x ih =>
      intro i hi hx
      rcases hgt_is S x with e | ⟨y, hy, hb, e⟩
      · omega
      · obtain ⟨j, hj, rfl⟩ := mem_at0 hy
        have h1 := ih _ (bel_lt hb) j hj rfl
        have h2 := ho i j hi hj (by omega) (by rw [hx]; exact hb)
        omega
  intro i hi
  have := key _ i hi rfl
  have := hl i hi
  omega

set_option maxRecDepth 100000 in
set_option maxHeartbeats 400000 in
theorem rbelow_any (y x : Nat) (w : World) (hy : W64 y) (hx : W64 x) :
    Calls Try.prog 15 #[.int .u64 (y : Int), .int .u64 (x : Int)] w fun e w' => e = .returned (.bool (bel y x)) ∧ w' = w := by
  have e1 := u64_and_nat y x hy hx
  by_cases h : y = x
  · subst h
    have hb : bel y y = false := by unfold bel; simp
    have hd : ((y : Int) != (y : Int)) = false := by simp
    rw [hb]
    go_enter Try.func15, Try.ntmps15
    go_wp2_with fail
    go_ret
    exact ⟨rfl, rfl⟩
  · have hd : ((y : Int) != (x : Int)) = true := by simp; omega
    have hb : bel y x = decide (y &&& x = y) := by unfold bel lq; rw [decide_eq_true h, Bool.true_and]
    have hd2 : (((y &&& x : Nat) : Int) == (y : Int)) = bel y x := by rw [hb]; by_cases e : y &&& x = y <;> simp [e]; omega
    have HB := hidden hb
    clear h hb
    go_enter Try.func15, Try.ntmps15
    go_wp2_with fail
    go_ret
    exact ⟨rfl, rfl⟩


end Go.Proofs.Ythclmkmajlinhab
