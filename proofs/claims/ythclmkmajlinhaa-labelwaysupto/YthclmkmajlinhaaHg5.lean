/- The document's Heights, walked. -/
import Derived.Test.YthclmkmajlinhaaHg4
import Derived.Test.YthclmkmajlinhaaReg
namespace Go.Proofs.Ythclmkmajlinhaa
open Go.RowKit

/-- How far the heights are from 65, all together. -/
def sumD (m : Nat) (h : Nat → Nat) : Nat := ((List.range m).map fun i => 65 - h i).sum
theorem sumD_succ (m : Nat) (h : Nat → Nat) : sumD (m + 1) h = sumD m h + (65 - h m) := by simp [sumD, List.range_succ]
theorem sumD_congr {m : Nat} {h h' : Nat → Nat} (he : ∀ i, i < m → h i = h' i) : sumD m h = sumD m h' := by
  unfold sumD
  rw [List.map_congr_left (fun i hi => by rw [he i (List.mem_range.1 hi)])]
theorem sumD_lt {m p x : Nat} {h : Nat → Nat} (hp : p < m) (hx : h p < x) (h65 : x ≤ 65) : sumD m (updN h p x) < sumD m h := by
  induction m with
  | zero => omega
  | succ m ih =>
    rw [sumD_succ, sumD_succ]
    by_cases e : p = m
    · subst e
      have h1 : sumD p (updN h p x) = sumD p h := sumD_congr (fun i hi => by unfold updN; rw [if_neg (by omega)])
      have h2 : updN h p x p = x := by unfold updN; rw [if_pos rfl]
      rw [h1, h2]; omega
    · have h1 := ih (by omega)
      have h2 : updN h p x m = h m := by unfold updN; rw [if_neg (by omega)]
      rw [h2]; omega
/-- The same, read off the memory. -/
def cellN (w : World) (g i : Nat) : Nat := match w.cell? ⟨g, i, none⟩ with | some (.int _ q) => q.toNat | _ => 0
def meas (w : World) (g m : Nat) : Nat := sumD m (cellN w g)
theorem meas_row {w : World} {g m : Nat} {h : Nat → Nat} (H : IRow w g m h) : meas w g m = sumD m h := sumD_congr fun i hi => by
  unfold cellN; rw [H.cell hi]; simp
def bN : Value → Nat | .bool true => 1 | _ => 0

/-- No height is too great. -/
def Lo (S : List Nat) (h : Nat → Nat) : Prop := ∀ i, i < S.length → h i ≤ hgt S (at0 S i)
/-- The pairs ahead of (p, q) are as they should be. -/
def Ok (S : List Nat) (h : Nat → Nat) (p q : Nat) : Prop := ∀ i j, i < S.length → j < S.length → (i < p ∨ i = p ∧ j < q) → bel (at0 S j) (at0 S i) = true → h j + 1 ≤ h i
/-- What stands in the midst of a turn that began with h0. -/
structure Mid (S : List Nat) (h0 h : Nat → Nat) (c : Bool) (p q : Nat) : Prop where
  lo : Lo S h
  le : sumD S.length h ≤ sumD S.length h0
  lt : c = true → sumD S.length h < sumD S.length h0
  ok : c = false → Ok S h p q
theorem Mid.start {S : List Nat} {h : Nat → Nat} (hl : Lo S h) : Mid S h h false 0 0 := ⟨hl, Nat.le_refl _, (fun e => by cases e), (fun _ i j _ _ hor => by omega)⟩
theorem Mid.next {S : List Nat} {h0 h : Nat → Nat} {c : Bool} {p : Nat} (H : Mid S h0 h c p S.length) : Mid S h0 h c (p + 1) 0 :=
  ⟨H.lo, H.le, H.lt, fun e i j hi hj hor hb => H.ok e i j hi hj (by omega) hb⟩
theorem Mid.pass {S : List Nat} {h0 h : Nat → Nat} {c : Bool} {p q : Nat} (H : Mid S h0 h c p q) (hk : bel (at0 S q) (at0 S p) = true → h q + 1 ≤ h p) : Mid S h0 h c p (q + 1) :=
  ⟨H.lo, H.le, H.lt, fun e i j hi hj hor hb => by
    by_cases e2 : i = p ∧ j = q
    · obtain ⟨rfl, rfl⟩ := e2; exact hk hb
    · exact H.ok e i j hi hj (by omega) hb⟩
theorem Mid.raise {S : List Nat} (h64 : All64 S) {h0 h : Nat → Nat} {c : Bool} {p q : Nat} (H : Mid S h0 h c p q) (hp : p < S.length) (hq : q < S.length) (hb : bel (at0 S q) (at0 S p) = true) (hlt : h p < h q + 1) : Mid S h0 (updN h p (h q + 1)) true p (q + 1) := by
  have h1 := H.lo q hq
  have h2 := hgt_ge (at0_mem hq) hb
  have h3 := hgt_64 h64 (h64.at p)
  have h4 := sumD_lt (h := h) hp hlt (by omega)
  have h5 := H.le
  refine ⟨fun i hi => ?_, by omega, fun _ => by omega, fun e => by cases e⟩
  unfold updN
  by_cases e : i = p
  · subst e; rw [if_pos rfl]; omega
  · rw [if_neg e]; exact H.lo i hi
theorem ok_end {S : List Nat} {h : Nat → Nat} (hl : Lo S h) (ho : Ok S h S.length 0) : ∀ i, i < S.length → h i = hgt S (at0 S i) := by
  have key : ∀ x i, i < S.length → at0 S i = x → hgt S x ≤ h i := by
    intro x
    induction x using Nat.strongRecOn with
    | ind x ih =>
      intro i hi hx
      rcases hgt_is S x with e | ⟨y, hy, hb, e⟩
      · omega
      · obtain ⟨j, hj, rfl⟩ := mem_at0 hy
        have h1 := ih _ (bel_lt hb) j hj rfl
        have h2 := ho i j hi hj (by omega) (by rw [hx]; exact hb)
        omega
  intro i hi
  have := key _ i hi rfl
  have := hl i hi
  omega

set_option maxRecDepth 100000 in
set_option maxHeartbeats 400000 in
theorem rbelow_any (y x : Nat) (w : World) (hy : W64 y) (hx : W64 x) :
    Calls Try.prog 35 #[.int .u64 (y : Int), .int .u64 (x : Int)] w fun e w' => e = .returned (.bool (bel y x)) ∧ w' = w := by
  have e1 := u64_and_nat y x hy hx
  by_cases h : y = x
  · subst h
    have hb : bel y y = false := by unfold bel; simp
    have hd : ((y : Int) != (y : Int)) = false := by simp
    rw [hb]
    go_enter Try.func35, Try.ntmps35
    go_wp2_with fail
    go_ret
    exact ⟨rfl, rfl⟩
  · have hd : ((y : Int) != (x : Int)) = true := by simp; omega
    have hb : bel y x = decide (y &&& x = y) := by unfold bel lq; rw [decide_eq_true h, Bool.true_and]
    have hd2 : (((y &&& x : Nat) : Int) == (y : Int)) = bel y x := by rw [hb]; by_cases e : y &&& x = y <;> simp [e]; omega
    have HB := hidden hb
    clear h hb
    go_enter Try.func35, Try.ntmps35
    go_wp2_with fail
    go_ret
    exact ⟨rfl, rfl⟩

set_option maxRecDepth 100000 in
set_option maxHeartbeats 8000000 in
theorem rheights_any (a : Option Addr) (cap : Nat) (zs : List Nat) (w : World) (hr : Row w a zs) (h64 : All64 zs) (hl : 8 * zs.length ≤ 140737488355328) :
    Calls Try.prog 16 #[.slice a zs.length cap] w fun e w' => (∃ g, e = .returned (.slice (some ⟨g, 0, none⟩) zs.length zs.length) ∧ IRow w' g zs.length (fun i => hgt zs (at0 zs i)) ∧ w.heap.size ≤ g) ∧ Below w.heap.size w w' := by
  have hmk := fun n (h : 8 * n ≤ 140737488355328) => run_make_row' (P := Try.prog) 32 3 (.int .i64 0) 8 Try.underlying32 infoInt rfl .i64 .i64 n (by omega) (by omega)
  go_enter Try.func16, Try.ntmps16
  go_wp2_with fail
  refine (unlike_any a cap zs w hr hl).mono ?_
  rintro e w1 ⟨⟨v, ga, S, A, rfl, hown, hat, hga, hunl⟩, hb1⟩
  have hS64 : All64 S := fun z hz => h64 z ((hunl.mem z).1 hz)
  have hSl := hunl.len
  obtain ⟨sa, sc, hv, hSr, _, _⟩ := hown.row
  subst hv
  have hmk1 := hmk S.length (by omega)
  have HUN := hidden hunl
  have hs1 := hb1.size
  clear hunl hown
  go_wp2_with fail
  clear hmk1
  have hr0 := IRow.made w1 S.length
  have hb0 : Below w1.heap.size w1 (w1.alloc (.cells (madeCells #[.int .i64 0] S.length) 3)) := (Below.refl _ _).alloc (Nat.le_refl _) _
  obtain ⟨W0, hW0⟩ : ∃ W0, W0 = w1.alloc (.cells (madeCells #[.int .i64 0] S.length) 3) := ⟨_, rfl⟩
  rw [← hW0] at hr0 hb0 ⊢
  obtain ⟨g, hg⟩ : ∃ g, g = w1.heap.size := ⟨_, rfl⟩
  rw [← hg] at hr0 ⊢
  have hgb : w1.heap.size ≤ g := by omega
  clear hW0 hg
  go_loopw [6] (fun ch wr => ∃ (c : Bool) (h : Nat → Nat), ch = .bool c ∧ IRow wr g S.length h ∧ Hid (Lo S h ∧ (c = false → Ok S h S.length 0)) ∧ Below w1.heap.size w1 wr) (fun ch wr => 2 * meas wr g S.length + bN ch)
  case atStart => exact ⟨true, _, rfl, hr0, ⟨fun i _ => Nat.zero_le _, fun e => by cases e⟩, hb0⟩
  case round =>
    obtain ⟨c, h0, rfl, hrow, hlo, hbl⟩ := hrel
    clear hr0 hb0
    cases c with
    | true =>
      have hms := meas_row hrow
      have HMS := hidden hms
      clear hms
      go_wp2_with fail
      go_loopw [6, 7] (fun ch i wq => ∃ (c : Bool) (p : Nat) (h : Nat → Nat), ch = .bool c ∧ p ≤ S.length ∧ i = .int .i64 (p : Int) ∧ IRow wq g S.length h ∧ Hid (Mid S h0 h c p 0) ∧ Below w1.heap.size w1 wq) (fun _ i _ => S.length - (intOf i).toNat)
      case atStart => exact ⟨false, 0, h0, rfl, by omega, rfl, hrow, Mid.start hlo.out.1, hbl⟩
      case round =>
        clear hrow hbl
        obtain ⟨c, p, h, rfl, hp, rfl, hrow, hmid, hbl⟩ := hrel
        by_cases hpS : p < S.length
        · have hpi : (p : Int) < (S.length : Int) := by omega
          go_wp2_with fail
          go_loopw [6, 8] (fun ch i wq => ∃ (c : Bool) (q : Nat) (h : Nat → Nat), ch = .bool c ∧ q ≤ S.length ∧ i = .int .i64 (q : Int) ∧ IRow wq g S.length h ∧ Hid (Mid S h0 h c p q) ∧ Below w1.heap.size w1 wq) (fun _ i _ => S.length - (intOf i).toNat)
          case atStart => exact ⟨c, 0, h, rfl, by omega, rfl, hrow, hmid, hbl⟩
          case round =>
            clear hrow hmid hbl
            obtain ⟨c, q, h, rfl, hq, rfl, hrow, hmid, hbl⟩ := hrel
            by_cases hqS : q < S.length
            · have hqi : (q : Int) < (S.length : Int) := by omega
              obtain ⟨b, o, rfl, hbb, hcz⟩ := hSr.here hpS
              have c1 := (hbl.cell (p := ⟨b, o + q, none⟩) hbb).trans (hcz q hqS)
              have c2 := (hbl.cell (p := ⟨b, o + p, none⟩) hbb).trans (hcz p hpS)
              have hY := hS64.at q
              have hX := hS64.at p
              have hlq1 := hmid.out.lo q hqS
              have hlq2 := hgt_64 hS64 hY
              have hlp1 := hmid.out.lo p hpS
              have hlp2 := hgt_64 hS64 hX
              have hraise := fun hb hlt => hmid.out.raise hS64 hpS hqS hb hlt
              have hpass := fun hk => hmid.out.pass hk
              have c3 := hrow.cell hpS
              have c4 := hrow.cell hqS
              have f3 := hrow.frozen p
              obtain ⟨X, hXe⟩ : ∃ X, X = at0 S p := ⟨_, rfl⟩
              obtain ⟨Y, hYe⟩ : ∃ Y, Y = at0 S q := ⟨_, rfl⟩
              obtain ⟨P, hPe⟩ : ∃ P, P = h p := ⟨_, rfl⟩
              obtain ⟨Q, hQe⟩ : ∃ Q, Q = h q := ⟨_, rfl⟩
              have hbP : P ≤ 64 := by omega
              have hbQ : Q ≤ 64 := by omega
              have hwQ : IntKind.i64.wrap ((Q : Int) + 1) = (Q : Int) + 1 := by rw [IntKind.wrap_i64]; omega
              rw [← hXe] at c2 hX hraise hpass
              rw [← hYe] at c1 hY hraise hpass
              rw [← hPe] at c3 hraise hpass
              rw [← hQe] at c4 hraise hpass
              have HRA := hidden hraise
              have HPA := hidden hpass
              have HROW := hidden hrow
              have hbe := rbelow_any Y X
              have hbw : b < wr.heap.size := by have := hbl.size; omega
              have hgw : g < wr.heap.size := hrow.lt
              clear hcz hlq1 hlq2 hlp1 hlp2 hraise hpass hXe hYe hPe hQe hmid hrow
              cases hbl' : bel Y X with
              | false =>
                have HB := hidden hbl'
                clear hbl'
                go_wp2_with fail
                refine wp_region_held_drew (S := (fun w' => Below wr.heap.size wr w')) (by kernel_rfl) ?_ (fun hHeld => ?_)
                · exact (Below.refl _ _).drew
                refine take_on (i := 0) (v := ?_) rfl rfl (by kernel_rfl) (by kernel_rfl) (by kernel_rfl) (fun _ _ _ h => h) rfl ?_ hHeld ?_
                rotate_left
                · (intro wq hSq; have q1 := (hSq.cell (p := ⟨b, o + q, none⟩) hbw).trans c1; have q2 := (hSq.cell (p := ⟨b, o + p, none⟩) hbw).trans c2; have q3 := (hSq.cell (p := ⟨g, p, none⟩) hgw).trans c3; have q4 := (hSq.cell (p := ⟨g, q, none⟩) hgw).trans c4; go_simp <;> first | with_reducible rfl | rfl)
                simp only [Act.put, List.setIfInBounds_toArray, List.set_cons_zero, List.set_cons_succ]
                refine take_on (i := 1) (v := ?_) rfl rfl (by kernel_rfl) (by kernel_rfl) (by kernel_rfl) (fun _ _ _ h => h) rfl ?_ hHeld ?_
                rotate_left
                · (intro wq hSq; have q1 := (hSq.cell (p := ⟨b, o + q, none⟩) hbw).trans c1; have q2 := (hSq.cell (p := ⟨b, o + p, none⟩) hbw).trans c2; have q3 := (hSq.cell (p := ⟨g, p, none⟩) hgw).trans c3; have q4 := (hSq.cell (p := ⟨g, q, none⟩) hgw).trans c4; go_simp <;> first | with_reducible rfl | rfl)
                simp only [Act.put, List.setIfInBounds_toArray, List.set_cons_zero, List.set_cons_succ]
                refine take_on (i := 2) (v := ?_) rfl rfl (by kernel_rfl) (by kernel_rfl) (by kernel_rfl) (fun _ _ _ h => h) rfl ?_ hHeld ?_
                rotate_left
                · (intro wq hSq; have q1 := (hSq.cell (p := ⟨b, o + q, none⟩) hbw).trans c1; have q2 := (hSq.cell (p := ⟨b, o + p, none⟩) hbw).trans c2; have q3 := (hSq.cell (p := ⟨g, p, none⟩) hgw).trans c3; have q4 := (hSq.cell (p := ⟨g, q, none⟩) hgw).trans c4; go_simp <;> first | with_reducible rfl | rfl)
                simp only [Act.put, List.setIfInBounds_toArray, List.set_cons_zero, List.set_cons_succ]
                refine take_on (i := 3) (v := ?_) rfl rfl (by kernel_rfl) (by kernel_rfl) (by kernel_rfl) (fun _ _ _ h => h) rfl ?_ hHeld ?_
                rotate_left
                · (intro wq hSq; have q1 := (hSq.cell (p := ⟨b, o + q, none⟩) hbw).trans c1; have q2 := (hSq.cell (p := ⟨b, o + p, none⟩) hbw).trans c2; have q3 := (hSq.cell (p := ⟨g, p, none⟩) hgw).trans c3; have q4 := (hSq.cell (p := ⟨g, q, none⟩) hgw).trans c4; go_simp <;> first | with_reducible rfl | rfl)
                simp only [Act.put, List.setIfInBounds_toArray, List.set_cons_zero, List.set_cons_succ]
                refine take_on (i := 4) (v := ?_) rfl rfl (by kernel_rfl) (by kernel_rfl) (by kernel_rfl) (fun _ _ _ h => h) rfl ?_ hHeld ?_
                rotate_left
                · (intro wq hSq; have q1 := (hSq.cell (p := ⟨b, o + q, none⟩) hbw).trans c1; have q2 := (hSq.cell (p := ⟨b, o + p, none⟩) hbw).trans c2; have q3 := (hSq.cell (p := ⟨g, p, none⟩) hgw).trans c3; have q4 := (hSq.cell (p := ⟨g, q, none⟩) hgw).trans c4; go_simp <;> first | with_reducible rfl | rfl)
                simp only [Act.put, List.setIfInBounds_toArray, List.set_cons_zero, List.set_cons_succ]
                refine take_on (i := 5) (v := ?_) rfl rfl (by kernel_rfl) (by kernel_rfl) (by kernel_rfl) (fun _ _ _ h => h) rfl ?_ hHeld ?_
                rotate_left
                · (intro wq hSq; have q1 := (hSq.cell (p := ⟨b, o + q, none⟩) hbw).trans c1; have q2 := (hSq.cell (p := ⟨b, o + p, none⟩) hbw).trans c2; have q3 := (hSq.cell (p := ⟨g, p, none⟩) hgw).trans c3; have q4 := (hSq.cell (p := ⟨g, q, none⟩) hgw).trans c4; go_simp <;> first | with_reducible rfl | rfl)
                simp only [Act.put, List.setIfInBounds_toArray, List.set_cons_zero, List.set_cons_succ]
                refine take_on (i := 6) (v := ?_) rfl rfl (by kernel_rfl) (by kernel_rfl) (by kernel_rfl) (fun _ _ _ h => h) rfl ?_ hHeld ?_
                rotate_left
                · (intro wq hSq; have q1 := (hSq.cell (p := ⟨b, o + q, none⟩) hbw).trans c1; have q2 := (hSq.cell (p := ⟨b, o + p, none⟩) hbw).trans c2; have q3 := (hSq.cell (p := ⟨g, p, none⟩) hgw).trans c3; have q4 := (hSq.cell (p := ⟨g, q, none⟩) hgw).trans c4; go_simp <;> first | with_reducible rfl | rfl)
                simp only [Act.put, List.setIfInBounds_toArray, List.set_cons_zero, List.set_cons_succ]
                refine take_on (i := 7) (v := ?_) rfl rfl (by kernel_rfl) (by kernel_rfl) (by kernel_rfl) (fun _ _ _ h => h) rfl ?_ hHeld ?_
                rotate_left
                · (intro wq hSq; have q1 := (hSq.cell (p := ⟨b, o + q, none⟩) hbw).trans c1; have q2 := (hSq.cell (p := ⟨b, o + p, none⟩) hbw).trans c2; have q3 := (hSq.cell (p := ⟨g, p, none⟩) hgw).trans c3; have q4 := (hSq.cell (p := ⟨g, q, none⟩) hgw).trans c4; go_simp <;> first | with_reducible rfl | rfl)
                simp only [Act.put, List.setIfInBounds_toArray, List.set_cons_zero, List.set_cons_succ]
                refine take_one (i := 8) rfl (by kernel_rfl) (fun K hK => ?_)
                go_simp
                refine (hbe _ hY hX).mono ?_; rw [HB.out]; rintro e y1 ⟨rfl, hq1⟩; have hq2 := hq1.symm; subst hq2; clear hq1
                try go_wp2_with fail
                refine hK.out _ _ ?_ (fun hHeld => ?_)
                · exact hHeld
                clear hK K
                try simp only [Act.put, List.setIfInBounds_toArray, List.set_cons_zero, List.set_cons_succ]
                refine take_on (i := 9) (v := ?_) rfl rfl (by kernel_rfl) (by kernel_rfl) (by kernel_rfl) (fun _ _ _ h => h) rfl ?_ hHeld ?_
                rotate_left
                · (intro wq hSq; have q1 := (hSq.cell (p := ⟨b, o + q, none⟩) hbw).trans c1; have q2 := (hSq.cell (p := ⟨b, o + p, none⟩) hbw).trans c2; have q3 := (hSq.cell (p := ⟨g, p, none⟩) hgw).trans c3; have q4 := (hSq.cell (p := ⟨g, q, none⟩) hgw).trans c4; go_simp <;> first | with_reducible rfl | rfl)
                simp only [Act.put, List.setIfInBounds_toArray, List.set_cons_zero, List.set_cons_succ]
                refine take_off (i := 10) rfl rfl (by kernel_rfl) (by kernel_rfl) (by kernel_rfl) (fun _ _ _ h => h) rfl hHeld ?_
                simp only [Act.put, List.setIfInBounds_toArray, List.set_cons_zero, List.set_cons_succ]
                refine take_off (i := 11) rfl rfl (by kernel_rfl) (by kernel_rfl) (by kernel_rfl) (fun _ _ _ h => h) rfl hHeld ?_
                simp only [Act.put, List.setIfInBounds_toArray, List.set_cons_zero, List.set_cons_succ]
                refine take_off (i := 12) rfl rfl (by kernel_rfl) (by kernel_rfl) (by kernel_rfl) (fun _ _ _ h => h) rfl hHeld ?_
                simp only [Act.put, List.setIfInBounds_toArray, List.set_cons_zero, List.set_cons_succ]
                refine take_off (i := 13) rfl rfl (by kernel_rfl) (by kernel_rfl) (by kernel_rfl) (fun _ _ _ h => h) rfl hHeld ?_
                simp only [Act.put, List.setIfInBounds_toArray, List.set_cons_zero, List.set_cons_succ]
                refine take_off (i := 14) rfl rfl (by kernel_rfl) (by kernel_rfl) (by kernel_rfl) (fun _ _ _ h => h) rfl hHeld ?_
                simp only [Act.put, List.setIfInBounds_toArray, List.set_cons_zero, List.set_cons_succ]
                refine take_off (i := 15) rfl rfl (by kernel_rfl) (by kernel_rfl) (by kernel_rfl) (fun _ _ _ h => h) rfl hHeld ?_
                simp only [Act.put, List.setIfInBounds_toArray, List.set_cons_zero, List.set_cons_succ]
                refine take_off (i := 16) rfl rfl (by kernel_rfl) (by kernel_rfl) (by kernel_rfl) (fun _ _ _ h => h) rfl hHeld ?_
                simp only [Act.put, List.setIfInBounds_toArray, List.set_cons_zero, List.set_cons_succ]
                refine take_off (i := 17) rfl rfl (by kernel_rfl) (by kernel_rfl) (by kernel_rfl) (fun _ _ _ h => h) rfl hHeld ?_
                simp only [Act.put, List.setIfInBounds_toArray, List.set_cons_zero, List.set_cons_succ]
                refine take_off (i := 18) rfl rfl (by kernel_rfl) (by kernel_rfl) (by kernel_rfl) (fun _ _ _ h => h) rfl hHeld ?_
                simp only [Act.put, List.setIfInBounds_toArray, List.set_cons_zero, List.set_cons_succ]
                refine take_off (i := 19) rfl rfl (by kernel_rfl) (by kernel_rfl) (by kernel_rfl) (fun _ _ _ h => h) rfl hHeld ?_
                simp only [Act.put, List.setIfInBounds_toArray, List.set_cons_zero, List.set_cons_succ]
                refine take_on (i := 20) (v := ?_) rfl rfl (by kernel_rfl) (by kernel_rfl) (by kernel_rfl) (fun _ _ _ h => h) rfl ?_ hHeld ?_
                rotate_left
                · (intro wq hSq; have q1 := (hSq.cell (p := ⟨b, o + q, none⟩) hbw).trans c1; have q2 := (hSq.cell (p := ⟨b, o + p, none⟩) hbw).trans c2; have q3 := (hSq.cell (p := ⟨g, p, none⟩) hgw).trans c3; have q4 := (hSq.cell (p := ⟨g, q, none⟩) hgw).trans c4; go_simp <;> first | with_reducible rfl | rfl)
                simp only [Act.put, List.setIfInBounds_toArray, List.set_cons_zero, List.set_cons_succ]
                refine wpAnyH_done (by kernel_rfl) ?_ _
                go_wp2_with fail
                go_roundw
                case rel => exact ⟨c, q + 1, h, rfl, by omega, by go_num, HROW.out.drewN 1, HPA.out (fun e => by rw [HB.out] at e; cases e), hbl.drew⟩
                case measure => simp [intOf]; omega
              | true =>
                have HB := hidden hbl'
                clear hbl'
                by_cases hPQ : P < Q + 1
                · have hd : decide ((P : Int) < (Q : Int) + 1) = true := by simp; omega
                  have hd2 : decide (P < Q + 1) = true := by simpa using hPQ
                  have HN := hidden (HRA.out HB.out hPQ)
                  go_wp2_with fail
                  refine wp_region_held_drew (S := (fun w' => Below wr.heap.size wr w')) (by kernel_rfl) ?_ (fun hHeld => ?_)
                  · exact (Below.refl _ _).drew
                  refine take_on (i := 0) (v := ?_) rfl rfl (by kernel_rfl) (by kernel_rfl) (by kernel_rfl) (fun _ _ _ h => h) rfl ?_ hHeld ?_
                  rotate_left
                  · (intro wq hSq; have q1 := (hSq.cell (p := ⟨b, o + q, none⟩) hbw).trans c1; have q2 := (hSq.cell (p := ⟨b, o + p, none⟩) hbw).trans c2; have q3 := (hSq.cell (p := ⟨g, p, none⟩) hgw).trans c3; have q4 := (hSq.cell (p := ⟨g, q, none⟩) hgw).trans c4; go_simp <;> first | with_reducible rfl | rfl)
                  simp only [Act.put, List.setIfInBounds_toArray, List.set_cons_zero, List.set_cons_succ]
                  refine take_on (i := 1) (v := ?_) rfl rfl (by kernel_rfl) (by kernel_rfl) (by kernel_rfl) (fun _ _ _ h => h) rfl ?_ hHeld ?_
                  rotate_left
                  · (intro wq hSq; have q1 := (hSq.cell (p := ⟨b, o + q, none⟩) hbw).trans c1; have q2 := (hSq.cell (p := ⟨b, o + p, none⟩) hbw).trans c2; have q3 := (hSq.cell (p := ⟨g, p, none⟩) hgw).trans c3; have q4 := (hSq.cell (p := ⟨g, q, none⟩) hgw).trans c4; go_simp <;> first | with_reducible rfl | rfl)
                  simp only [Act.put, List.setIfInBounds_toArray, List.set_cons_zero, List.set_cons_succ]
                  refine take_on (i := 2) (v := ?_) rfl rfl (by kernel_rfl) (by kernel_rfl) (by kernel_rfl) (fun _ _ _ h => h) rfl ?_ hHeld ?_
                  rotate_left
                  · (intro wq hSq; have q1 := (hSq.cell (p := ⟨b, o + q, none⟩) hbw).trans c1; have q2 := (hSq.cell (p := ⟨b, o + p, none⟩) hbw).trans c2; have q3 := (hSq.cell (p := ⟨g, p, none⟩) hgw).trans c3; have q4 := (hSq.cell (p := ⟨g, q, none⟩) hgw).trans c4; go_simp <;> first | with_reducible rfl | rfl)
                  simp only [Act.put, List.setIfInBounds_toArray, List.set_cons_zero, List.set_cons_succ]
                  refine take_on (i := 3) (v := ?_) rfl rfl (by kernel_rfl) (by kernel_rfl) (by kernel_rfl) (fun _ _ _ h => h) rfl ?_ hHeld ?_
                  rotate_left
                  · (intro wq hSq; have q1 := (hSq.cell (p := ⟨b, o + q, none⟩) hbw).trans c1; have q2 := (hSq.cell (p := ⟨b, o + p, none⟩) hbw).trans c2; have q3 := (hSq.cell (p := ⟨g, p, none⟩) hgw).trans c3; have q4 := (hSq.cell (p := ⟨g, q, none⟩) hgw).trans c4; go_simp <;> first | with_reducible rfl | rfl)
                  simp only [Act.put, List.setIfInBounds_toArray, List.set_cons_zero, List.set_cons_succ]
                  refine take_on (i := 4) (v := ?_) rfl rfl (by kernel_rfl) (by kernel_rfl) (by kernel_rfl) (fun _ _ _ h => h) rfl ?_ hHeld ?_
                  rotate_left
                  · (intro wq hSq; have q1 := (hSq.cell (p := ⟨b, o + q, none⟩) hbw).trans c1; have q2 := (hSq.cell (p := ⟨b, o + p, none⟩) hbw).trans c2; have q3 := (hSq.cell (p := ⟨g, p, none⟩) hgw).trans c3; have q4 := (hSq.cell (p := ⟨g, q, none⟩) hgw).trans c4; go_simp <;> first | with_reducible rfl | rfl)
                  simp only [Act.put, List.setIfInBounds_toArray, List.set_cons_zero, List.set_cons_succ]
                  refine take_on (i := 5) (v := ?_) rfl rfl (by kernel_rfl) (by kernel_rfl) (by kernel_rfl) (fun _ _ _ h => h) rfl ?_ hHeld ?_
                  rotate_left
                  · (intro wq hSq; have q1 := (hSq.cell (p := ⟨b, o + q, none⟩) hbw).trans c1; have q2 := (hSq.cell (p := ⟨b, o + p, none⟩) hbw).trans c2; have q3 := (hSq.cell (p := ⟨g, p, none⟩) hgw).trans c3; have q4 := (hSq.cell (p := ⟨g, q, none⟩) hgw).trans c4; go_simp <;> first | with_reducible rfl | rfl)
                  simp only [Act.put, List.setIfInBounds_toArray, List.set_cons_zero, List.set_cons_succ]
                  refine take_on (i := 6) (v := ?_) rfl rfl (by kernel_rfl) (by kernel_rfl) (by kernel_rfl) (fun _ _ _ h => h) rfl ?_ hHeld ?_
                  rotate_left
                  · (intro wq hSq; have q1 := (hSq.cell (p := ⟨b, o + q, none⟩) hbw).trans c1; have q2 := (hSq.cell (p := ⟨b, o + p, none⟩) hbw).trans c2; have q3 := (hSq.cell (p := ⟨g, p, none⟩) hgw).trans c3; have q4 := (hSq.cell (p := ⟨g, q, none⟩) hgw).trans c4; go_simp <;> first | with_reducible rfl | rfl)
                  simp only [Act.put, List.setIfInBounds_toArray, List.set_cons_zero, List.set_cons_succ]
                  refine take_on (i := 7) (v := ?_) rfl rfl (by kernel_rfl) (by kernel_rfl) (by kernel_rfl) (fun _ _ _ h => h) rfl ?_ hHeld ?_
                  rotate_left
                  · (intro wq hSq; have q1 := (hSq.cell (p := ⟨b, o + q, none⟩) hbw).trans c1; have q2 := (hSq.cell (p := ⟨b, o + p, none⟩) hbw).trans c2; have q3 := (hSq.cell (p := ⟨g, p, none⟩) hgw).trans c3; have q4 := (hSq.cell (p := ⟨g, q, none⟩) hgw).trans c4; go_simp <;> first | with_reducible rfl | rfl)
                  simp only [Act.put, List.setIfInBounds_toArray, List.set_cons_zero, List.set_cons_succ]
                  refine take_one (i := 8) rfl (by kernel_rfl) (fun K hK => ?_)
                  go_simp
                  refine (hbe _ hY hX).mono ?_; rw [HB.out]; rintro e y1 ⟨rfl, hq1⟩; have hq2 := hq1.symm; subst hq2; clear hq1
                  try go_wp2_with fail
                  refine hK.out _ _ ?_ (fun hHeld => ?_)
                  · exact hHeld
                  clear hK K
                  try simp only [Act.put, List.setIfInBounds_toArray, List.set_cons_zero, List.set_cons_succ]
                  refine take_on (i := 9) (v := ?_) rfl rfl (by kernel_rfl) (by kernel_rfl) (by kernel_rfl) (fun _ _ _ h => h) rfl ?_ hHeld ?_
                  rotate_left
                  · (intro wq hSq; have q1 := (hSq.cell (p := ⟨b, o + q, none⟩) hbw).trans c1; have q2 := (hSq.cell (p := ⟨b, o + p, none⟩) hbw).trans c2; have q3 := (hSq.cell (p := ⟨g, p, none⟩) hgw).trans c3; have q4 := (hSq.cell (p := ⟨g, q, none⟩) hgw).trans c4; go_simp <;> first | with_reducible rfl | rfl)
                  simp only [Act.put, List.setIfInBounds_toArray, List.set_cons_zero, List.set_cons_succ]
                  refine take_on (i := 10) (v := ?_) rfl rfl (by kernel_rfl) (by kernel_rfl) (by kernel_rfl) (fun _ _ _ h => h) rfl ?_ hHeld ?_
                  rotate_left
                  · (intro wq hSq; have q1 := (hSq.cell (p := ⟨b, o + q, none⟩) hbw).trans c1; have q2 := (hSq.cell (p := ⟨b, o + p, none⟩) hbw).trans c2; have q3 := (hSq.cell (p := ⟨g, p, none⟩) hgw).trans c3; have q4 := (hSq.cell (p := ⟨g, q, none⟩) hgw).trans c4; go_simp <;> first | with_reducible rfl | rfl)
                  simp only [Act.put, List.setIfInBounds_toArray, List.set_cons_zero, List.set_cons_succ]
                  refine take_on (i := 11) (v := ?_) rfl rfl (by kernel_rfl) (by kernel_rfl) (by kernel_rfl) (fun _ _ _ h => h) rfl ?_ hHeld ?_
                  rotate_left
                  · (intro wq hSq; have q1 := (hSq.cell (p := ⟨b, o + q, none⟩) hbw).trans c1; have q2 := (hSq.cell (p := ⟨b, o + p, none⟩) hbw).trans c2; have q3 := (hSq.cell (p := ⟨g, p, none⟩) hgw).trans c3; have q4 := (hSq.cell (p := ⟨g, q, none⟩) hgw).trans c4; go_simp <;> first | with_reducible rfl | rfl)
                  simp only [Act.put, List.setIfInBounds_toArray, List.set_cons_zero, List.set_cons_succ]
                  refine take_on (i := 12) (v := ?_) rfl rfl (by kernel_rfl) (by kernel_rfl) (by kernel_rfl) (fun _ _ _ h => h) rfl ?_ hHeld ?_
                  rotate_left
                  · (intro wq hSq; have q1 := (hSq.cell (p := ⟨b, o + q, none⟩) hbw).trans c1; have q2 := (hSq.cell (p := ⟨b, o + p, none⟩) hbw).trans c2; have q3 := (hSq.cell (p := ⟨g, p, none⟩) hgw).trans c3; have q4 := (hSq.cell (p := ⟨g, q, none⟩) hgw).trans c4; go_simp <;> first | with_reducible rfl | rfl)
                  simp only [Act.put, List.setIfInBounds_toArray, List.set_cons_zero, List.set_cons_succ]
                  refine take_on (i := 13) (v := ?_) rfl rfl (by kernel_rfl) (by kernel_rfl) (by kernel_rfl) (fun _ _ _ h => h) rfl ?_ hHeld ?_
                  rotate_left
                  · (intro wq hSq; have q1 := (hSq.cell (p := ⟨b, o + q, none⟩) hbw).trans c1; have q2 := (hSq.cell (p := ⟨b, o + p, none⟩) hbw).trans c2; have q3 := (hSq.cell (p := ⟨g, p, none⟩) hgw).trans c3; have q4 := (hSq.cell (p := ⟨g, q, none⟩) hgw).trans c4; go_simp <;> first | with_reducible rfl | rfl)
                  simp only [Act.put, List.setIfInBounds_toArray, List.set_cons_zero, List.set_cons_succ]
                  refine take_on (i := 14) (v := ?_) rfl rfl (by kernel_rfl) (by kernel_rfl) (by kernel_rfl) (fun _ _ _ h => h) rfl ?_ hHeld ?_
                  rotate_left
                  · (intro wq hSq; have q1 := (hSq.cell (p := ⟨b, o + q, none⟩) hbw).trans c1; have q2 := (hSq.cell (p := ⟨b, o + p, none⟩) hbw).trans c2; have q3 := (hSq.cell (p := ⟨g, p, none⟩) hgw).trans c3; have q4 := (hSq.cell (p := ⟨g, q, none⟩) hgw).trans c4; go_simp <;> first | with_reducible rfl | rfl)
                  simp only [Act.put, List.setIfInBounds_toArray, List.set_cons_zero, List.set_cons_succ]
                  refine take_on (i := 15) (v := ?_) rfl rfl (by kernel_rfl) (by kernel_rfl) (by kernel_rfl) (fun _ _ _ h => h) rfl ?_ hHeld ?_
                  rotate_left
                  · (intro wq hSq; have q1 := (hSq.cell (p := ⟨b, o + q, none⟩) hbw).trans c1; have q2 := (hSq.cell (p := ⟨b, o + p, none⟩) hbw).trans c2; have q3 := (hSq.cell (p := ⟨g, p, none⟩) hgw).trans c3; have q4 := (hSq.cell (p := ⟨g, q, none⟩) hgw).trans c4; go_simp <;> first | with_reducible rfl | rfl)
                  simp only [Act.put, List.setIfInBounds_toArray, List.set_cons_zero, List.set_cons_succ]
                  refine take_on (i := 16) (v := ?_) rfl rfl (by kernel_rfl) (by kernel_rfl) (by kernel_rfl) (fun _ _ _ h => h) rfl ?_ hHeld ?_
                  rotate_left
                  · (intro wq hSq; have q1 := (hSq.cell (p := ⟨b, o + q, none⟩) hbw).trans c1; have q2 := (hSq.cell (p := ⟨b, o + p, none⟩) hbw).trans c2; have q3 := (hSq.cell (p := ⟨g, p, none⟩) hgw).trans c3; have q4 := (hSq.cell (p := ⟨g, q, none⟩) hgw).trans c4; go_simp <;> first | with_reducible rfl | rfl)
                  simp only [Act.put, List.setIfInBounds_toArray, List.set_cons_zero, List.set_cons_succ]
                  refine take_on (i := 17) (v := ?_) rfl rfl (by kernel_rfl) (by kernel_rfl) (by kernel_rfl) (fun _ _ _ h => h) rfl ?_ hHeld ?_
                  rotate_left
                  · (intro wq hSq; have q1 := (hSq.cell (p := ⟨b, o + q, none⟩) hbw).trans c1; have q2 := (hSq.cell (p := ⟨b, o + p, none⟩) hbw).trans c2; have q3 := (hSq.cell (p := ⟨g, p, none⟩) hgw).trans c3; have q4 := (hSq.cell (p := ⟨g, q, none⟩) hgw).trans c4; go_simp <;> first | with_reducible rfl | rfl)
                  simp only [Act.put, List.setIfInBounds_toArray, List.set_cons_zero, List.set_cons_succ]
                  refine take_on (i := 18) (v := ?_) rfl rfl (by kernel_rfl) (by kernel_rfl) (by kernel_rfl) (fun _ _ _ h => h) rfl ?_ hHeld ?_
                  rotate_left
                  · (intro wq hSq; have q1 := (hSq.cell (p := ⟨b, o + q, none⟩) hbw).trans c1; have q2 := (hSq.cell (p := ⟨b, o + p, none⟩) hbw).trans c2; have q3 := (hSq.cell (p := ⟨g, p, none⟩) hgw).trans c3; have q4 := (hSq.cell (p := ⟨g, q, none⟩) hgw).trans c4; go_simp <;> first | with_reducible rfl | rfl)
                  simp only [Act.put, List.setIfInBounds_toArray, List.set_cons_zero, List.set_cons_succ]
                  refine take_on (i := 19) (v := ?_) rfl rfl (by kernel_rfl) (by kernel_rfl) (by kernel_rfl) (fun _ _ _ h => h) rfl ?_ hHeld ?_
                  rotate_left
                  · (intro wq hSq; have q1 := (hSq.cell (p := ⟨b, o + q, none⟩) hbw).trans c1; have q2 := (hSq.cell (p := ⟨b, o + p, none⟩) hbw).trans c2; have q3 := (hSq.cell (p := ⟨g, p, none⟩) hgw).trans c3; have q4 := (hSq.cell (p := ⟨g, q, none⟩) hgw).trans c4; go_simp <;> first | with_reducible rfl | rfl)
                  simp only [Act.put, List.setIfInBounds_toArray, List.set_cons_zero, List.set_cons_succ]
                  refine take_on (i := 20) (v := ?_) rfl rfl (by kernel_rfl) (by kernel_rfl) (by kernel_rfl) (fun _ _ _ h => h) rfl ?_ hHeld ?_
                  rotate_left
                  · (intro wq hSq; have q1 := (hSq.cell (p := ⟨b, o + q, none⟩) hbw).trans c1; have q2 := (hSq.cell (p := ⟨b, o + p, none⟩) hbw).trans c2; have q3 := (hSq.cell (p := ⟨g, p, none⟩) hgw).trans c3; have q4 := (hSq.cell (p := ⟨g, q, none⟩) hgw).trans c4; go_simp <;> first | with_reducible rfl | rfl)
                  simp only [Act.put, List.setIfInBounds_toArray, List.set_cons_zero, List.set_cons_succ]
                  refine wpAnyH_done (by kernel_rfl) ?_ _
                  go_wp2_with fail
                  go_roundw
                  case rel => exact ⟨true, q + 1, updN h p (Q + 1), rfl, by omega, by go_num, (HROW.out.drewN 1).set p (Q + 1) (fun i _ => rfl), HN, hbl.drew.setCell hgb _⟩
                  case measure => simp [intOf]; omega
                · have hd : decide ((P : Int) < (Q : Int) + 1) = false := by simp; omega
                  have hd2 : decide (P < Q + 1) = false := by simpa using hPQ
                  go_wp2_with fail
                  refine wp_region_held_drew (S := (fun w' => Below wr.heap.size wr w')) (by kernel_rfl) ?_ (fun hHeld => ?_)
                  · exact (Below.refl _ _).drew
                  refine take_on (i := 0) (v := ?_) rfl rfl (by kernel_rfl) (by kernel_rfl) (by kernel_rfl) (fun _ _ _ h => h) rfl ?_ hHeld ?_
                  rotate_left
                  · (intro wq hSq; have q1 := (hSq.cell (p := ⟨b, o + q, none⟩) hbw).trans c1; have q2 := (hSq.cell (p := ⟨b, o + p, none⟩) hbw).trans c2; have q3 := (hSq.cell (p := ⟨g, p, none⟩) hgw).trans c3; have q4 := (hSq.cell (p := ⟨g, q, none⟩) hgw).trans c4; go_simp <;> first | with_reducible rfl | rfl)
                  simp only [Act.put, List.setIfInBounds_toArray, List.set_cons_zero, List.set_cons_succ]
                  refine take_on (i := 1) (v := ?_) rfl rfl (by kernel_rfl) (by kernel_rfl) (by kernel_rfl) (fun _ _ _ h => h) rfl ?_ hHeld ?_
                  rotate_left
                  · (intro wq hSq; have q1 := (hSq.cell (p := ⟨b, o + q, none⟩) hbw).trans c1; have q2 := (hSq.cell (p := ⟨b, o + p, none⟩) hbw).trans c2; have q3 := (hSq.cell (p := ⟨g, p, none⟩) hgw).trans c3; have q4 := (hSq.cell (p := ⟨g, q, none⟩) hgw).trans c4; go_simp <;> first | with_reducible rfl | rfl)
                  simp only [Act.put, List.setIfInBounds_toArray, List.set_cons_zero, List.set_cons_succ]
                  refine take_on (i := 2) (v := ?_) rfl rfl (by kernel_rfl) (by kernel_rfl) (by kernel_rfl) (fun _ _ _ h => h) rfl ?_ hHeld ?_
                  rotate_left
                  · (intro wq hSq; have q1 := (hSq.cell (p := ⟨b, o + q, none⟩) hbw).trans c1; have q2 := (hSq.cell (p := ⟨b, o + p, none⟩) hbw).trans c2; have q3 := (hSq.cell (p := ⟨g, p, none⟩) hgw).trans c3; have q4 := (hSq.cell (p := ⟨g, q, none⟩) hgw).trans c4; go_simp <;> first | with_reducible rfl | rfl)
                  simp only [Act.put, List.setIfInBounds_toArray, List.set_cons_zero, List.set_cons_succ]
                  refine take_on (i := 3) (v := ?_) rfl rfl (by kernel_rfl) (by kernel_rfl) (by kernel_rfl) (fun _ _ _ h => h) rfl ?_ hHeld ?_
                  rotate_left
                  · (intro wq hSq; have q1 := (hSq.cell (p := ⟨b, o + q, none⟩) hbw).trans c1; have q2 := (hSq.cell (p := ⟨b, o + p, none⟩) hbw).trans c2; have q3 := (hSq.cell (p := ⟨g, p, none⟩) hgw).trans c3; have q4 := (hSq.cell (p := ⟨g, q, none⟩) hgw).trans c4; go_simp <;> first | with_reducible rfl | rfl)
                  simp only [Act.put, List.setIfInBounds_toArray, List.set_cons_zero, List.set_cons_succ]
                  refine take_on (i := 4) (v := ?_) rfl rfl (by kernel_rfl) (by kernel_rfl) (by kernel_rfl) (fun _ _ _ h => h) rfl ?_ hHeld ?_
                  rotate_left
                  · (intro wq hSq; have q1 := (hSq.cell (p := ⟨b, o + q, none⟩) hbw).trans c1; have q2 := (hSq.cell (p := ⟨b, o + p, none⟩) hbw).trans c2; have q3 := (hSq.cell (p := ⟨g, p, none⟩) hgw).trans c3; have q4 := (hSq.cell (p := ⟨g, q, none⟩) hgw).trans c4; go_simp <;> first | with_reducible rfl | rfl)
                  simp only [Act.put, List.setIfInBounds_toArray, List.set_cons_zero, List.set_cons_succ]
                  refine take_on (i := 5) (v := ?_) rfl rfl (by kernel_rfl) (by kernel_rfl) (by kernel_rfl) (fun _ _ _ h => h) rfl ?_ hHeld ?_
                  rotate_left
                  · (intro wq hSq; have q1 := (hSq.cell (p := ⟨b, o + q, none⟩) hbw).trans c1; have q2 := (hSq.cell (p := ⟨b, o + p, none⟩) hbw).trans c2; have q3 := (hSq.cell (p := ⟨g, p, none⟩) hgw).trans c3; have q4 := (hSq.cell (p := ⟨g, q, none⟩) hgw).trans c4; go_simp <;> first | with_reducible rfl | rfl)
                  simp only [Act.put, List.setIfInBounds_toArray, List.set_cons_zero, List.set_cons_succ]
                  refine take_on (i := 6) (v := ?_) rfl rfl (by kernel_rfl) (by kernel_rfl) (by kernel_rfl) (fun _ _ _ h => h) rfl ?_ hHeld ?_
                  rotate_left
                  · (intro wq hSq; have q1 := (hSq.cell (p := ⟨b, o + q, none⟩) hbw).trans c1; have q2 := (hSq.cell (p := ⟨b, o + p, none⟩) hbw).trans c2; have q3 := (hSq.cell (p := ⟨g, p, none⟩) hgw).trans c3; have q4 := (hSq.cell (p := ⟨g, q, none⟩) hgw).trans c4; go_simp <;> first | with_reducible rfl | rfl)
                  simp only [Act.put, List.setIfInBounds_toArray, List.set_cons_zero, List.set_cons_succ]
                  refine take_on (i := 7) (v := ?_) rfl rfl (by kernel_rfl) (by kernel_rfl) (by kernel_rfl) (fun _ _ _ h => h) rfl ?_ hHeld ?_
                  rotate_left
                  · (intro wq hSq; have q1 := (hSq.cell (p := ⟨b, o + q, none⟩) hbw).trans c1; have q2 := (hSq.cell (p := ⟨b, o + p, none⟩) hbw).trans c2; have q3 := (hSq.cell (p := ⟨g, p, none⟩) hgw).trans c3; have q4 := (hSq.cell (p := ⟨g, q, none⟩) hgw).trans c4; go_simp <;> first | with_reducible rfl | rfl)
                  simp only [Act.put, List.setIfInBounds_toArray, List.set_cons_zero, List.set_cons_succ]
                  refine take_one (i := 8) rfl (by kernel_rfl) (fun K hK => ?_)
                  go_simp
                  refine (hbe _ hY hX).mono ?_; rw [HB.out]; rintro e y1 ⟨rfl, hq1⟩; have hq2 := hq1.symm; subst hq2; clear hq1
                  try go_wp2_with fail
                  refine hK.out _ _ ?_ (fun hHeld => ?_)
                  · exact hHeld
                  clear hK K
                  try simp only [Act.put, List.setIfInBounds_toArray, List.set_cons_zero, List.set_cons_succ]
                  refine take_on (i := 9) (v := ?_) rfl rfl (by kernel_rfl) (by kernel_rfl) (by kernel_rfl) (fun _ _ _ h => h) rfl ?_ hHeld ?_
                  rotate_left
                  · (intro wq hSq; have q1 := (hSq.cell (p := ⟨b, o + q, none⟩) hbw).trans c1; have q2 := (hSq.cell (p := ⟨b, o + p, none⟩) hbw).trans c2; have q3 := (hSq.cell (p := ⟨g, p, none⟩) hgw).trans c3; have q4 := (hSq.cell (p := ⟨g, q, none⟩) hgw).trans c4; go_simp <;> first | with_reducible rfl | rfl)
                  simp only [Act.put, List.setIfInBounds_toArray, List.set_cons_zero, List.set_cons_succ]
                  refine take_on (i := 10) (v := ?_) rfl rfl (by kernel_rfl) (by kernel_rfl) (by kernel_rfl) (fun _ _ _ h => h) rfl ?_ hHeld ?_
                  rotate_left
                  · (intro wq hSq; have q1 := (hSq.cell (p := ⟨b, o + q, none⟩) hbw).trans c1; have q2 := (hSq.cell (p := ⟨b, o + p, none⟩) hbw).trans c2; have q3 := (hSq.cell (p := ⟨g, p, none⟩) hgw).trans c3; have q4 := (hSq.cell (p := ⟨g, q, none⟩) hgw).trans c4; go_simp <;> first | with_reducible rfl | rfl)
                  simp only [Act.put, List.setIfInBounds_toArray, List.set_cons_zero, List.set_cons_succ]
                  refine take_on (i := 11) (v := ?_) rfl rfl (by kernel_rfl) (by kernel_rfl) (by kernel_rfl) (fun _ _ _ h => h) rfl ?_ hHeld ?_
                  rotate_left
                  · (intro wq hSq; have q1 := (hSq.cell (p := ⟨b, o + q, none⟩) hbw).trans c1; have q2 := (hSq.cell (p := ⟨b, o + p, none⟩) hbw).trans c2; have q3 := (hSq.cell (p := ⟨g, p, none⟩) hgw).trans c3; have q4 := (hSq.cell (p := ⟨g, q, none⟩) hgw).trans c4; go_simp <;> first | with_reducible rfl | rfl)
                  simp only [Act.put, List.setIfInBounds_toArray, List.set_cons_zero, List.set_cons_succ]
                  refine take_on (i := 12) (v := ?_) rfl rfl (by kernel_rfl) (by kernel_rfl) (by kernel_rfl) (fun _ _ _ h => h) rfl ?_ hHeld ?_
                  rotate_left
                  · (intro wq hSq; have q1 := (hSq.cell (p := ⟨b, o + q, none⟩) hbw).trans c1; have q2 := (hSq.cell (p := ⟨b, o + p, none⟩) hbw).trans c2; have q3 := (hSq.cell (p := ⟨g, p, none⟩) hgw).trans c3; have q4 := (hSq.cell (p := ⟨g, q, none⟩) hgw).trans c4; go_simp <;> first | with_reducible rfl | rfl)
                  simp only [Act.put, List.setIfInBounds_toArray, List.set_cons_zero, List.set_cons_succ]
                  refine take_on (i := 13) (v := ?_) rfl rfl (by kernel_rfl) (by kernel_rfl) (by kernel_rfl) (fun _ _ _ h => h) rfl ?_ hHeld ?_
                  rotate_left
                  · (intro wq hSq; have q1 := (hSq.cell (p := ⟨b, o + q, none⟩) hbw).trans c1; have q2 := (hSq.cell (p := ⟨b, o + p, none⟩) hbw).trans c2; have q3 := (hSq.cell (p := ⟨g, p, none⟩) hgw).trans c3; have q4 := (hSq.cell (p := ⟨g, q, none⟩) hgw).trans c4; go_simp <;> first | with_reducible rfl | rfl)
                  simp only [Act.put, List.setIfInBounds_toArray, List.set_cons_zero, List.set_cons_succ]
                  refine take_on (i := 14) (v := ?_) rfl rfl (by kernel_rfl) (by kernel_rfl) (by kernel_rfl) (fun _ _ _ h => h) rfl ?_ hHeld ?_
                  rotate_left
                  · (intro wq hSq; have q1 := (hSq.cell (p := ⟨b, o + q, none⟩) hbw).trans c1; have q2 := (hSq.cell (p := ⟨b, o + p, none⟩) hbw).trans c2; have q3 := (hSq.cell (p := ⟨g, p, none⟩) hgw).trans c3; have q4 := (hSq.cell (p := ⟨g, q, none⟩) hgw).trans c4; go_simp <;> first | with_reducible rfl | rfl)
                  simp only [Act.put, List.setIfInBounds_toArray, List.set_cons_zero, List.set_cons_succ]
                  refine take_on (i := 15) (v := ?_) rfl rfl (by kernel_rfl) (by kernel_rfl) (by kernel_rfl) (fun _ _ _ h => h) rfl ?_ hHeld ?_
                  rotate_left
                  · (intro wq hSq; have q1 := (hSq.cell (p := ⟨b, o + q, none⟩) hbw).trans c1; have q2 := (hSq.cell (p := ⟨b, o + p, none⟩) hbw).trans c2; have q3 := (hSq.cell (p := ⟨g, p, none⟩) hgw).trans c3; have q4 := (hSq.cell (p := ⟨g, q, none⟩) hgw).trans c4; go_simp <;> first | with_reducible rfl | rfl)
                  simp only [Act.put, List.setIfInBounds_toArray, List.set_cons_zero, List.set_cons_succ]
                  refine take_on (i := 16) (v := ?_) rfl rfl (by kernel_rfl) (by kernel_rfl) (by kernel_rfl) (fun _ _ _ h => h) rfl ?_ hHeld ?_
                  rotate_left
                  · (intro wq hSq; have q1 := (hSq.cell (p := ⟨b, o + q, none⟩) hbw).trans c1; have q2 := (hSq.cell (p := ⟨b, o + p, none⟩) hbw).trans c2; have q3 := (hSq.cell (p := ⟨g, p, none⟩) hgw).trans c3; have q4 := (hSq.cell (p := ⟨g, q, none⟩) hgw).trans c4; go_simp <;> first | with_reducible rfl | rfl)
                  simp only [Act.put, List.setIfInBounds_toArray, List.set_cons_zero, List.set_cons_succ]
                  refine take_on (i := 17) (v := ?_) rfl rfl (by kernel_rfl) (by kernel_rfl) (by kernel_rfl) (fun _ _ _ h => h) rfl ?_ hHeld ?_
                  rotate_left
                  · (intro wq hSq; have q1 := (hSq.cell (p := ⟨b, o + q, none⟩) hbw).trans c1; have q2 := (hSq.cell (p := ⟨b, o + p, none⟩) hbw).trans c2; have q3 := (hSq.cell (p := ⟨g, p, none⟩) hgw).trans c3; have q4 := (hSq.cell (p := ⟨g, q, none⟩) hgw).trans c4; go_simp <;> first | with_reducible rfl | rfl)
                  simp only [Act.put, List.setIfInBounds_toArray, List.set_cons_zero, List.set_cons_succ]
                  refine take_on (i := 18) (v := ?_) rfl rfl (by kernel_rfl) (by kernel_rfl) (by kernel_rfl) (fun _ _ _ h => h) rfl ?_ hHeld ?_
                  rotate_left
                  · (intro wq hSq; have q1 := (hSq.cell (p := ⟨b, o + q, none⟩) hbw).trans c1; have q2 := (hSq.cell (p := ⟨b, o + p, none⟩) hbw).trans c2; have q3 := (hSq.cell (p := ⟨g, p, none⟩) hgw).trans c3; have q4 := (hSq.cell (p := ⟨g, q, none⟩) hgw).trans c4; go_simp <;> first | with_reducible rfl | rfl)
                  simp only [Act.put, List.setIfInBounds_toArray, List.set_cons_zero, List.set_cons_succ]
                  refine take_on (i := 19) (v := ?_) rfl rfl (by kernel_rfl) (by kernel_rfl) (by kernel_rfl) (fun _ _ _ h => h) rfl ?_ hHeld ?_
                  rotate_left
                  · (intro wq hSq; have q1 := (hSq.cell (p := ⟨b, o + q, none⟩) hbw).trans c1; have q2 := (hSq.cell (p := ⟨b, o + p, none⟩) hbw).trans c2; have q3 := (hSq.cell (p := ⟨g, p, none⟩) hgw).trans c3; have q4 := (hSq.cell (p := ⟨g, q, none⟩) hgw).trans c4; go_simp <;> first | with_reducible rfl | rfl)
                  simp only [Act.put, List.setIfInBounds_toArray, List.set_cons_zero, List.set_cons_succ]
                  refine take_on (i := 20) (v := ?_) rfl rfl (by kernel_rfl) (by kernel_rfl) (by kernel_rfl) (fun _ _ _ h => h) rfl ?_ hHeld ?_
                  rotate_left
                  · (intro wq hSq; have q1 := (hSq.cell (p := ⟨b, o + q, none⟩) hbw).trans c1; have q2 := (hSq.cell (p := ⟨b, o + p, none⟩) hbw).trans c2; have q3 := (hSq.cell (p := ⟨g, p, none⟩) hgw).trans c3; have q4 := (hSq.cell (p := ⟨g, q, none⟩) hgw).trans c4; go_simp <;> first | with_reducible rfl | rfl)
                  simp only [Act.put, List.setIfInBounds_toArray, List.set_cons_zero, List.set_cons_succ]
                  refine wpAnyH_done (by kernel_rfl) ?_ _
                  go_wp2_with fail
                  go_roundw
                  case rel => exact ⟨c, q + 1, h, rfl, by omega, by go_num, HROW.out.drewN 1, HPA.out (fun _ => by omega), hbl.drew⟩
                  case measure => simp [intOf]; omega
            · have hqe : q = S.length := by omega
              subst hqe
              go_wp2_with fail
              go_roundw
              case rel => exact ⟨c, p + 1, h, rfl, by omega, by go_num, hrow, hmid.out.next, hbl⟩
              case measure => simp [intOf]; omega
        · have hpe : p = S.length := by omega
          subst hpe
          have hme := meas_row hrow
          go_wp2_with fail
          go_roundw
          case rel => exact ⟨c, h, rfl, hrow, ⟨hmid.out.lo, hmid.out.ok⟩, hbl⟩
          case measure =>
            rw [hme, HMS.out]
            have h1 := hmid.out.le
            cases c with
            | true => have h2 := hmid.out.lt rfl; simp [bN]; omega
            | false => simp [bN]; omega
    | false =>
      have hfin := ok_end hlo.out.1 (hlo.out.2 rfl)
      have hrowS := hrow.congr (h' := fun i => hgt zs (at0 S i)) (fun i hi => by rw [hfin i hi]; exact hgt_congr HUN.out.mem _)
      have hmk2 := hmk zs.length hl
      have HROW := hidden hrowS
      have hgl := hrowS.lt
      clear hrow hrowS hlo hfin
      go_wp2_with fail
      clear hmk2 hmk
      have hq0 := IRow.made wr zs.length
      have hb0 : Below wr.heap.size wr (wr.alloc (.cells (madeCells #[.int .i64 0] zs.length) 3)) := (Below.refl _ _).alloc (Nat.le_refl _) _
      obtain ⟨W2, hW2⟩ : ∃ W2, W2 = wr.alloc (.cells (madeCells #[.int .i64 0] zs.length) 3) := ⟨_, rfl⟩
      rw [← hW2] at hq0 hb0 ⊢
      obtain ⟨q, hq⟩ : ∃ q, q = wr.heap.size := ⟨_, rfl⟩
      rw [← hq] at hq0 ⊢
      have hqb : wr.heap.size ≤ q := by omega
      have hwq : w.heap.size ≤ q := by have := hbl.size; omega
      have hatl := hat.lt
      clear hW2 hq
      go_loopw [10] (fun i wq => ∃ k : Nat, k ≤ zs.length ∧ i = .int .i64 k ∧ IRow wq q zs.length (fun i => if i < k then hgt zs (at0 zs i) else 0) ∧ Below wr.heap.size wr wq) (fun i _ => zs.length - (intOf i).toNat)
      case atStart => exact ⟨0, by omega, rfl, hq0.congr (fun i _ => rfl), hb0⟩
      case round =>
        obtain ⟨k, hkz, rfl, hrq, hbq⟩ := hrel
        clear hq0 hb0
        by_cases hlz : k < zs.length
        · have hi1 : (k : Int) < (zs.length : Int) := by omega
          obtain ⟨hAk, hAe⟩ := HUN.out.found k hlz
          have hat2 : IRow _ ga zs.length A := hat.keep (((hbl.trans (hbq.mono hbl.size)).block ga hatl))
          have hrS : IRow _ g S.length (fun i => hgt zs (at0 S i)) := HROW.out.keep (hbq.block g hgl)
          have c0 := hat2.cell hlz
          have c1 := hrS.cell hAk
          simp only [hAe] at c1
          obtain ⟨V, hV⟩ : ∃ V, V = hgt zs (at0 zs k) := ⟨_, rfl⟩
          obtain ⟨P, hP⟩ : ∃ P, P = A k := ⟨_, rfl⟩
          rw [← hV, ← hP] at c1
          rw [← hP] at c0 hAk
          have hPi : (P : Int) < (S.length : Int) := by omega
          have c2 := hrq.cell hlz
          have f2 := hrq.frozen k
          have HV := hidden hV
          have HRQ := hidden hrq
          clear hAe hV hP hrq hat2 hrS
          go_wp2_with fail
          go_roundw
          case rel =>
            refine ⟨k + 1, by omega, by go_num, HRQ.out.set k V (fun i hi => ?_), hbq.setCell hqb _⟩
            by_cases e : i = k
            · subst e; rw [if_pos (by omega), if_pos rfl, HV.out]
            · rw [if_neg e]
              by_cases e2 : i < k
              · rw [if_pos e2, if_pos (by omega)]
              · rw [if_neg e2, if_neg (by omega)]
          case measure => simp [intOf]; omega
        · have hkz : k = zs.length := by omega
          subst hkz
          have hbw1 := hb1.trans ((hbl.trans (hbq.mono hbl.size)).mono hb1.size)
          go_wp2_with fail
          go_ret
          exact ⟨⟨q, rfl, hrq.congr (fun i hi => by rw [if_pos hi]), hwq⟩, hbw1⟩

end Go.Proofs.Ythclmkmajlinhaa
