/- The document's area, walked: Read, Image, Load. -/
import Derived.Test.YtejaaalgnbnalaaDc5
import Derived.Test.YtejaaalgnbnalaaAr6
namespace Go.Proofs.Ytejaaalgnbnalaa
open Go.RowKit

/-- A value of the document's, handed back in the result's struct. -/
theorem Dn.ret {w W1 W2 : World} {r : Nat} {B : Int} {da sa : Value} {bs : List Nat} {k : Nat} (hD : Dn W1 da sa bs k W2) (hb : Below w.heap.size w W2) (hW : w.heap.size ≤ W1.heap.size) (hr : BoxD W2 r 0 (.slice none 0 0) (.slice none 0 0)) (hwr : w.heap.size ≤ r) (hrl : r < W1.heap.size) :
    BoxD (((W2.setCell ⟨r, 0, none⟩ (.int .i64 B)).setCell ⟨r, 1, none⟩ da).setCell ⟨r, 2, none⟩ sa) r B da sa ∧ Dn w da sa bs k (((W2.setCell ⟨r, 0, none⟩ (.int .i64 B)).setCell ⟨r, 1, none⟩ da).setCell ⟨r, 2, none⟩ sa) := by
  have hk : ∀ j, W1.heap.size ≤ j → (((W2.setCell ⟨r, 0, none⟩ (.int .i64 B)).setCell ⟨r, 1, none⟩ da).setCell ⟨r, 2, none⟩ sa).heap[j]? = W2.heap[j]? := fun j hj => by
    have hne : j ≠ r := by omega
    exact (Below.heap_setCell _ _ _ _ hne).trans ((Below.heap_setCell _ _ _ _ hne).trans (Below.heap_setCell _ _ _ _ hne))
  exact ⟨hr.all B da sa, (hD.by_.keep fun j hj => hk j (hD.by_.inside j hj).1).mono hW, (hD.sf.keep fun j hj => hk j (hD.sf.inside j hj).1).mono hW, hD.le, ((hb.setCell hwr _).setCell hwr _).setCell hwr _⟩

set_option maxRecDepth 100000 in
set_option maxHeartbeats 800000 in
theorem rread_ok {da sa : Value} {bs : List Nat} {k : Nat} (B : Nat) (w : World) (h : Dv w da sa bs k) (hr : B + bs.length ≤ 9223372036854775807) (hl : bs.length ≤ 211106232532800) (i m : Nat) (him : i + m ≤ bs.length) (E : Int) (hE : E = (B : Int) + (i : Int)) :
    Calls Try.prog 28 #[.agg #[.int .i64 (B : Int), da, sa], .int .i64 E, .int .i64 (m : Int)] w fun e w' => Tells w ((bs.take (i + m)).drop i) 0 e w' := by
  obtain ⟨W0, hW0⟩ : ∃ W0, W0 = w.alloc (.cells #[.int .i64 (B : Int), da, sa] 52) := ⟨_, rfl⟩
  have hb0 : Below w.heap.size w W0 := by rw [hW0]; exact (Below.refl _ _).alloc (Nat.le_refl _) _
  have hq0 : BoxD W0 w.heap.size (B : Int) da sa := by rw [hW0]; exact BoxD.new w _ _ _
  have hend := rend_any B W0 (h.below hb0) hr
  have hend2 := fun w1 hb => rend_any B w1 ((h.below hb0).below (w' := w1) hb) hr
  obtain ⟨a, cap, a2, c2, rfl, rfl, hrow, _, hcap, _, hnil, _⟩ := h.open
  have hcut := OwB.drop (m := i) (zs := bs.take (i + m)) (by rw [List.length_take, Nat.min_eq_left him]; exact OwB.take h.by_ him) (by rw [List.length_take, Nat.min_eq_left him]; omega)
  rw [List.length_take, Nat.min_eq_left him] at hcut
  obtain ⟨A, hA⟩ : ∃ A, (if cap = i then a else a.map (·.add i)) = A := ⟨_, rfl⟩
  rw [hA, Nat.add_sub_cancel_left] at hcut
  have hlen : ((bs.take (i + m)).drop i).length = m := by simp; omega
  obtain ⟨zs, hzs⟩ : ∃ zs, zs = (bs.take (i + m)).drop i := ⟨_, rfl⟩
  rw [← hzs] at hcut hlen
  rw [← hzs]
  obtain ⟨a9, c9, e9, hrow2, _, _, hnil2⟩ := hcut.row
  rw [hlen] at e9
  cases e9
  obtain ⟨F, hF⟩ : ∃ F : Int, F = ((B + bs.length : Nat) : Int) := ⟨_, rfl⟩
  obtain ⟨G, hG⟩ : ∃ G : Int, G = F - E := ⟨_, rfl⟩
  have hw : IntKind.i64.wrap (F - E) = G := by rw [IntKind.wrap_i64]; omega
  have h2 : ¬ G < (m : Int) := by omega
  have hd2 : decide (F < E) = false := by simp; omega
  have hw2 : IntKind.i64.wrap (E - (B : Int)) = (i : Int) := by rw [IntKind.wrap_i64]; omega
  have hw3 : IntKind.i64.wrap ((i : Int) + (m : Int)) = ((i + m : Nat) : Int) := by rw [IntKind.wrap_i64]; omega
  have hd1 : decide (E < (B : Int)) = false := by simp; omega
  have hd0 : decide ((m : Int) < 0) = false := by simp
  have hap : ∀ w1, Below w.heap.size w w1 → ∃ v' w', (Builtin.append_ #[23, 23] 23 #[.slice none 0 0, .slice A m (cap - i)]).run Try.prog w1 = .ok v' w' ∧ OwB w' w1.heap.size v' zs ∧ Below w1.heap.size w1 w' := fun w1 hb => by
    obtain ⟨v', w', q1, q2, q3, q4⟩ := run_appendB w1 23 w1.heap.size (.slice none 0 0) [] (OwB.nil _ _) A (cap - i) zs (hrow2.below hb) hnil2 (by simp; omega) (Nat.le_refl _)
    rw [hlen] at q1
    exact ⟨v', w', q1, q2, (Below.refl _ _).grown q3 (Nat.le_refl _) (fun j e => by cases e)⟩
  obtain ⟨J, hJ⟩ : ∃ J, J = i + m := ⟨_, rfl⟩
  have hJi : J - i = m := by omega
  have hJc : J ≤ cap := by omega
  have hJl : i ≤ J := by omega
  rw [← hJ] at hw3
  rw [← hF] at hend hend2
  clear hE hF hG hr h hl hcut hrow hrow2 hnil hnil2 hzs hJ hlen him hcap
  obtain ⟨Bi, hBi⟩ : ∃ Bi : Int, Bi = (B : Int) := ⟨_, rfl⟩
  rw [← hBi] at hW0 hq0 hd1 hw2 hend hend2
  rw [← hBi]
  clear hBi
  go_enter Try.func28, Try.ntmps28
  go_wp2_with fail
  rw [← hW0]
  clear hW0
  refine hend.mono ?_
  rintro e w1 ⟨rfl, hb1⟩
  have hbe := hb0.trans (hb1.mono hb0.size)
  obtain ⟨x0, x1, x2, _⟩ := (hq0.below hb1).cells
  have hen2 := hend2 w1 hb1
  have hq1 := hq0.below hb1
  clear hend hend2 hq0
  go_wp2_with fail
  refine hen2.mono ?_
  rintro e w2 ⟨rfl, hb2⟩
  have hbe2 := hbe.trans (hb2.mono hbe.size)
  obtain ⟨x0, x1, x2, _⟩ := (hq1.below hb2).cells
  obtain ⟨r, w3, hrun, hown, hb3⟩ := hap w2 hbe2
  have hout : Tells w zs 0 (.returned (.tuple #[r, .int .i64 0])) w3 := ⟨⟨r, rfl, hown.mono hbe2.size⟩, hbe2.trans (hb3.mono hbe2.size)⟩
  clear hen2 hap hq1
  go_wp2_with (at_builtin; refine wpList_append_run rfl _ _ _ rfl _ _ _ _ rfl rfl hrun ?_)
  refine bodyPost_ret (v := .tuple #[r, .int .i64 0]) (by simp [results, Try.results28, go_sem]) rfl ?_
  exact hout

set_option maxRecDepth 100000 in
set_option maxHeartbeats 800000 in
theorem rimage_any {da sa : Value} {bs : List Nat} {k : Nat} (B : Nat) (w : World) (h : Dv w da sa bs k) (hr : B + bs.length ≤ 9223372036854775807) (hl : bs.length ≤ 211106232532800) :
    Calls Try.prog 32 #[.agg #[.int .i64 (B : Int), da, sa]] w fun e w' => ∃ r, e = .returned r ∧ OwB w' w.heap.size r (bs.take k) ∧ Below w.heap.size w w' := by
  have hk := h.le
  obtain ⟨W0, hW0⟩ : ∃ W0, W0 = w.alloc (.cells #[.int .i64 (B : Int), da, sa] 52) := ⟨_, rfl⟩
  have hb0 : Below w.heap.size w W0 := by rw [hW0]; exact (Below.refl _ _).alloc (Nat.le_refl _) _
  have hq0 : BoxD W0 w.heap.size (B : Int) da sa := by rw [hW0]; exact BoxD.new w _ _ _
  have hsafe := rsafe_any B W0.drew ((h.below hb0).below (Below.refl _ _).drew) hr
  obtain ⟨a, cap, a2, c2, rfl, rfl, hrow, _, hcap, _, hnil, _⟩ := h.open
  have hcut := OwB.take h.by_ hk
  have hlen : (bs.take k).length = k := by simp; omega
  obtain ⟨zs, hzs⟩ : ∃ zs, zs = bs.take k := ⟨_, rfl⟩
  rw [← hzs] at hcut hlen
  rw [← hzs]
  obtain ⟨a9, c9, e9, hrow2, _, _, hnil2⟩ := hcut.row
  rw [hlen] at e9
  cases e9
  obtain ⟨F, hF⟩ : ∃ F : Int, F = ((B + k : Nat) : Int) := ⟨_, rfl⟩
  have hw : IntKind.i64.wrap (F - (B : Int)) = (k : Int) := by rw [IntKind.wrap_i64]; omega
  have hap : ∀ w1, Below w.heap.size w w1 → ∃ v' w', (Builtin.append_ #[23, 23] 23 #[.slice none 0 0, .slice a k cap]).run Try.prog w1 = .ok v' w' ∧ OwB w' w1.heap.size v' zs ∧ Below w1.heap.size w1 w' := fun w1 hb => by
    obtain ⟨v', w', q1, q2, q3, q4⟩ := run_appendB w1 23 w1.heap.size (.slice none 0 0) [] (OwB.nil _ _) a cap zs (hrow2.below hb) hnil2 (by simp; omega) (Nat.le_refl _)
    rw [hlen] at q1
    exact ⟨v', w', q1, q2, (Below.refl _ _).grown q3 (Nat.le_refl _) (fun j e => by cases e)⟩
  rw [← hF] at hsafe
  have hkc : k ≤ cap := by omega
  have hs0 := hq0.lt
  obtain ⟨x0, x1, x2, _⟩ := hq0.cells
  clear hF hr h hl hcut hrow hrow2 hnil hnil2 hzs hlen hcap hk
  obtain ⟨Bi, hBi⟩ : ∃ Bi : Int, Bi = (B : Int) := ⟨_, rfl⟩
  rw [← hBi] at hW0 hq0 hw hsafe x0
  rw [← hBi]
  clear hBi
  go_enter Try.func32, Try.ntmps32
  go_wp2_with fail
  rw [← hW0]
  clear hW0
  refine wp_region_held_drew (S := (fun w' => Below W0.heap.size W0 w')) (by kernel_rfl) ?_ (fun hHeld => ?_)
  · exact (Below.refl _ _).drew
  refine take_on (i := 0) (v := ?_) rfl rfl (by kernel_rfl) (by kernel_rfl) (by kernel_rfl) (fun _ _ _ h => h) rfl ?_ hHeld ?_
  rotate_left
  · (intro wq hSq; have q0 := (hSq.cell (p := ⟨w.heap.size, 0, none⟩) hs0).trans x0; have q1 := (hSq.cell (p := ⟨w.heap.size, 1, none⟩) hs0).trans x1; have q2 := (hSq.cell (p := ⟨w.heap.size, 2, none⟩) hs0).trans x2; go_simp <;> first | with_reducible rfl | rfl)
  simp only [Act.put, List.setIfInBounds_toArray, List.set_cons_zero, List.set_cons_succ]
  refine take_on (i := 1) (v := ?_) rfl rfl (by kernel_rfl) (by kernel_rfl) (by kernel_rfl) (fun _ _ _ h => h) rfl ?_ hHeld ?_
  rotate_left
  · (intro wq hSq; have q0 := (hSq.cell (p := ⟨w.heap.size, 0, none⟩) hs0).trans x0; have q1 := (hSq.cell (p := ⟨w.heap.size, 1, none⟩) hs0).trans x1; have q2 := (hSq.cell (p := ⟨w.heap.size, 2, none⟩) hs0).trans x2; go_simp <;> first | with_reducible rfl | rfl)
  simp only [Act.put, List.setIfInBounds_toArray, List.set_cons_zero, List.set_cons_succ]
  refine take_on (i := 2) (v := ?_) rfl rfl (by kernel_rfl) (by kernel_rfl) (by kernel_rfl) (fun _ _ _ h => h) rfl ?_ hHeld ?_
  rotate_left
  · (intro wq hSq; have q0 := (hSq.cell (p := ⟨w.heap.size, 0, none⟩) hs0).trans x0; have q1 := (hSq.cell (p := ⟨w.heap.size, 1, none⟩) hs0).trans x1; have q2 := (hSq.cell (p := ⟨w.heap.size, 2, none⟩) hs0).trans x2; go_simp <;> first | with_reducible rfl | rfl)
  simp only [Act.put, List.setIfInBounds_toArray, List.set_cons_zero, List.set_cons_succ]
  refine take_on (i := 4) (v := ?_) rfl rfl (by kernel_rfl) (by kernel_rfl) (by kernel_rfl) (fun _ _ _ h => h) rfl ?_ hHeld ?_
  rotate_left
  · (intro wq hSq; have q0 := (hSq.cell (p := ⟨w.heap.size, 0, none⟩) hs0).trans x0; have q1 := (hSq.cell (p := ⟨w.heap.size, 1, none⟩) hs0).trans x1; have q2 := (hSq.cell (p := ⟨w.heap.size, 2, none⟩) hs0).trans x2; go_simp <;> first | with_reducible rfl | rfl)
  simp only [Act.put, List.setIfInBounds_toArray, List.set_cons_zero, List.set_cons_succ]
  refine take_on (i := 5) (v := ?_) rfl rfl (by kernel_rfl) (by kernel_rfl) (by kernel_rfl) (fun _ _ _ h => h) rfl ?_ hHeld ?_
  rotate_left
  · (intro wq hSq; have q0 := (hSq.cell (p := ⟨w.heap.size, 0, none⟩) hs0).trans x0; have q1 := (hSq.cell (p := ⟨w.heap.size, 1, none⟩) hs0).trans x1; have q2 := (hSq.cell (p := ⟨w.heap.size, 2, none⟩) hs0).trans x2; go_simp <;> first | with_reducible rfl | rfl)
  simp only [Act.put, List.setIfInBounds_toArray, List.set_cons_zero, List.set_cons_succ]
  refine take_one (i := 3) rfl (by kernel_rfl) (fun K hK => ?_)
  go_simp
  refine hsafe.mono ?_; rintro e y1 ⟨rfl, hb1⟩; have hy1 : Below W0.heap.size W0 y1 := (Below.refl _ _).drew.trans hb1
  try go_wp2_with fail
  refine hK.out _ _ ?_ (fun hHeld => ?_)
  · exact hy1
  clear hK K
  try simp only [Act.put, List.setIfInBounds_toArray, List.set_cons_zero, List.set_cons_succ]
  refine take_on (i := 6) (v := ?_) rfl rfl (by kernel_rfl) (by kernel_rfl) (by kernel_rfl) (fun _ _ _ h => h) rfl ?_ hHeld ?_
  rotate_left
  · (intro wq hSq; have q0 := (hSq.cell (p := ⟨w.heap.size, 0, none⟩) hs0).trans x0; have q1 := (hSq.cell (p := ⟨w.heap.size, 1, none⟩) hs0).trans x1; have q2 := (hSq.cell (p := ⟨w.heap.size, 2, none⟩) hs0).trans x2; go_simp <;> first | with_reducible rfl | rfl)
  simp only [Act.put, List.setIfInBounds_toArray, List.set_cons_zero, List.set_cons_succ]
  refine take_on (i := 7) (v := ?_) rfl rfl (by kernel_rfl) (by kernel_rfl) (by kernel_rfl) (fun _ _ _ h => h) rfl ?_ hHeld ?_
  rotate_left
  · (intro wq hSq; have q0 := (hSq.cell (p := ⟨w.heap.size, 0, none⟩) hs0).trans x0; have q1 := (hSq.cell (p := ⟨w.heap.size, 1, none⟩) hs0).trans x1; have q2 := (hSq.cell (p := ⟨w.heap.size, 2, none⟩) hs0).trans x2; go_simp <;> first | with_reducible rfl | rfl)
  simp only [Act.put, List.setIfInBounds_toArray, List.set_cons_zero, List.set_cons_succ]
  refine take_one (i := 8) rfl (by kernel_rfl) (fun K hK => ?_)
  have hbe := hb0.trans (hy1.mono hb0.size)
  obtain ⟨r, y2, hrun, hown, hb2⟩ := hap y1 hbe
  refine step_append_run rfl _ _ _ rfl _ _ _ _ rfl rfl hrun ?_
  refine hK.out _ _ ?_ (fun hHeld => ?_)
  · exact hy1.trans (hb2.mono hy1.size)
  clear hK K
  try simp only [Act.put, List.setIfInBounds_toArray, List.set_cons_zero, List.set_cons_succ]
  refine take_on (i := 9) (v := ?_) rfl rfl (by kernel_rfl) (by kernel_rfl) (by kernel_rfl) (fun _ _ _ h => h) rfl ?_ hHeld ?_
  rotate_left
  · (intro wq hSq; have q0 := (hSq.cell (p := ⟨w.heap.size, 0, none⟩) hs0).trans x0; have q1 := (hSq.cell (p := ⟨w.heap.size, 1, none⟩) hs0).trans x1; have q2 := (hSq.cell (p := ⟨w.heap.size, 2, none⟩) hs0).trans x2; go_simp <;> first | with_reducible rfl | rfl)
  simp only [Act.put, List.setIfInBounds_toArray, List.set_cons_zero, List.set_cons_succ]
  refine wpAnyH_done (by kernel_rfl) ?_ _
  have hbe2 := hbe.trans (hb2.mono hbe.size)
  have ho2 := hown.mono hbe.size
  clear hrun hown hap hsafe
  go_wp2_with fail
  go_ret
  exact ⟨_, rfl, ho2, hbe2⟩

theorem dv_zero (w : World) : Dv w (.slice none 0 0) (.slice none 0 0) [] 0 := ⟨OwB.nil _ _, OwO.nil _ _, Nat.le_refl _⟩

set_option maxRecDepth 100000 in
set_option maxHeartbeats 800000 in
theorem rload_no (w : World) (E : Int) (v : Value) (hE : E < 0 ∨ 4611686018427387904 < E) :
    Calls Try.prog 33 #[.int .i64 E, v] w fun e w' => e = .returned (.tuple #[.agg #[.int .i64 0, .slice none 0 0, .slice none 0 0], .int .i64 2]) ∧ Below w.heap.size w w' := by
  have hb := (Below.refl w.heap.size w).alloc (Nat.le_refl _) (.cells #[.int .i64 0, .slice none 0 0, .slice none 0 0] 52)
  by_cases h1 : E < 0
  · have hd : decide (E < 0) = true := by simpa using h1
    clear hE
    go_enter Try.func33, Try.ntmps33
    go_wp2_with fail
    refine bodyPost_ret (v := .tuple #[.agg #[.int .i64 0, .slice none 0 0, .slice none 0 0], .int .i64 2]) (by simp [results, Try.results33, go_sem]) rfl ?_
    exact ⟨rfl, by simpa using hb⟩
  · have hd : decide (E < 0) = false := by simp; omega
    have hd2 : decide (4611686018427387904 < E) = true := by simp; omega
    clear hE h1
    go_enter Try.func33, Try.ntmps33
    go_wp2_with fail
    refine bodyPost_ret (v := .tuple #[.agg #[.int .i64 0, .slice none 0 0, .slice none 0 0], .int .i64 2]) (by simp [results, Try.results33, go_sem]) rfl ?_
    exact ⟨rfl, by simpa using hb⟩

set_option maxRecDepth 100000 in
set_option maxHeartbeats 800000 in
theorem rload_ok (w : World) (B : Nat) (hB : B ≤ 4611686018427387904) (a : Option Addr) (cap : Nat) (zs : List Nat) (hr : RowB w a zs) (hl : zs.length ≤ 211106232532800) (hnil : a = none → zs.length = 0 ∧ cap = 0) :
    Calls Try.prog 33 #[.int .i64 (B : Int), .slice a zs.length cap] w fun e w' => ∃ da sa, e = .returned (.tuple #[.agg #[.int .i64 (B : Int), da, sa], .int .i64 0]) ∧ Dn w da sa zs zs.length w' := by
  have hd : decide ((B : Int) < 0) = false := by simp
  have hd2 : decide (4611686018427387904 < (B : Int)) = false := by simp; omega
  obtain ⟨Bi, hBi⟩ : ∃ Bi : Int, Bi = (B : Int) := ⟨_, rfl⟩
  rw [← hBi] at hd hd2
  rw [← hBi]
  clear hBi hB
  obtain ⟨W0, hW0⟩ : ∃ W0, W0 = (w.alloc (.cells #[.int .i64 0, .slice none 0 0, .slice none 0 0] 52)).alloc (.cells #[.int .i64 Bi, .slice none 0 0, .slice none 0 0] 52) := ⟨_, rfl⟩
  have hb0 : Below w.heap.size w W0 := by rw [hW0]; exact ((Below.refl _ _).alloc (Nat.le_refl _) _).alloc (by simp) _
  have hq0 : BoxD W0 w.heap.size 0 (.slice none 0 0) (.slice none 0 0) := by rw [hW0]; exact (BoxD.new w _ _ _).keep (Below.heap_alloc _ _ _ (by simp))
  have hq1 : BoxD W0 (w.heap.size + 1) Bi (.slice none 0 0) (.slice none 0 0) := by
    have := BoxD.new (w.alloc (.cells #[.int .i64 0, .slice none 0 0, .slice none 0 0] 52)) Bi (.slice none 0 0) (.slice none 0 0)
    rw [hW0]; simpa using this
  have hmore := (dv_zero W0).more Bi a cap zs (hr.below hb0) hnil (by simpa using hl)
  rw [List.nil_append] at hmore
  clear hr
  go_enter Try.func33, Try.ntmps33
  go_wp2_with fail
  rw [← hW0]
  clear hW0
  refine hmore.mono ?_
  rintro e w1 ⟨da, sa, rfl, hD⟩
  obtain ⟨d1, d2, e1, e2, rfl, rfl, _⟩ := hD.dv.open
  have hqx := hq1.below hD.bel
  obtain ⟨i0, i1, i2, j0, j1, j2⟩ := hqx.cells
  have hqy := hqx.all Bi (.slice d1 zs.length d2) (.slice e1 zs.length e2)
  obtain ⟨V, hV⟩ : ∃ V, V = ((w1.setCell ⟨w.heap.size + 1, 0, none⟩ (.int .i64 Bi)).setCell ⟨w.heap.size + 1, 1, none⟩ (.slice d1 zs.length d2)).setCell ⟨w.heap.size + 1, 2, none⟩ (.slice e1 zs.length e2) := ⟨_, rfl⟩
  rw [← hV] at hqy
  obtain ⟨y0, y1, y2, _⟩ := hqy.cells
  have hs1 := hq1.lt
  have hkV : ∀ j, j ≠ w.heap.size + 1 → V.heap[j]? = w1.heap[j]? := fun j hne => by rw [hV]; exact (Below.heap_setCell _ _ _ _ hne).trans ((Below.heap_setCell _ _ _ _ hne).trans (Below.heap_setCell _ _ _ _ hne))
  have hDV : Dv V (.slice d1 zs.length d2) (.slice e1 zs.length e2) zs 0 :=
    ⟨(hD.by_.keep fun j hj => hkV j (by have := (hD.by_.inside j hj).1; omega)).mono (Nat.zero_le _), (hD.sf.keep fun j hj => hkV j (by have := (hD.sf.inside j hj).1; omega)).mono (Nat.zero_le _), Nat.zero_le _⟩
  have hbV : Below w.heap.size w V := by
    rw [hV]
    exact (((hb0.trans (hD.bel.mono hb0.size)).setCell (p := ⟨w.heap.size + 1, 0, none⟩) (by show w.heap.size ≤ w.heap.size + 1; omega) _).setCell (p := ⟨w.heap.size + 1, 1, none⟩) (by show w.heap.size ≤ w.heap.size + 1; omega) _).setCell (p := ⟨w.heap.size + 1, 2, none⟩) (by show w.heap.size ≤ w.heap.size + 1; omega) _
  have hqr : BoxD V w.heap.size 0 (.slice none 0 0) (.slice none 0 0) := (hq0.below hD.bel).keep (hkV _ (by omega))
  have hsy := rsync_any Bi V hDV hl
  clear hmore hD hqx hq0 hq1 hb0
  go_wp2_with fail
  rw [← hV]
  clear hV hkV
  refine hsy.mono ?_
  rintro e w2 ⟨da', sa', rfl, hD2⟩
  obtain ⟨hbx, hdn⟩ := Dn.ret (B := Bi) hD2 (hbV.trans (hD2.bel.mono hbV.size)) hbV.size (hqr.below hD2.bel) (Nat.le_refl _) hqr.lt
  obtain ⟨d1, d2, e1, e2, rfl, rfl, _⟩ := hD2.dv.open
  obtain ⟨i0, i1, i2, j0, j1, j2⟩ := (hqr.below hD2.bel).cells
  obtain ⟨u0, u1, u2, _⟩ := hbx.cells
  clear hsy hD2 hbx hqr hqy hDV hbV y0 y1 y2
  go_wp2_with fail
  refine bodyPost_ret (v := .tuple #[.agg #[.int .i64 Bi, .slice d1 zs.length d2, .slice e1 zs.length e2], .int .i64 0]) (by simp [results, Try.results33, go_sem, u0, u1, u2]) rfl ?_
  exact ⟨_, _, rfl, hdn⟩

end Go.Proofs.Ytejaaalgnbnalaa
