/- The law that Check, Place and May leave what they are handed as it is, walked. -/
import Derived.Test.YtoindigckfajlabLeav2
import Derived.Test.YtoindigckfajlabOpenC
import Derived.Test.YtoindigckfajlabAwake2
namespace Go.Proofs.Ytoindigckfajlab.labelLeaves
open Go.RowKit

theorem same_may {p : Prop} {u v : Bool} (hu : u = true ↔ p) (hv : v = true ↔ p) : u = v := by
  cases u <;> cases v
  · rfl
  · exact absurd (hu.2 (hv.1 rfl)) (by decide)
  · exact absurd (hv.2 (hu.1 rfl)) (by decide)
  · rfl
theorem cells3 {w : World} {g : Nat} {cs : Array Value} {t : TypeId} (h : w.heap[g]? = some (.cells cs t (0, 0))) : w.cell? ⟨g, 0, none⟩ = cs[0]? ∧ w.cell? ⟨g, 1, none⟩ = cs[1]? ∧ w.cell? ⟨g, 2, none⟩ = cs[2]? :=
  ⟨cell_of_row _ _ _ _ _ _ h, cell_of_row _ _ _ _ _ _ h, cell_of_row _ _ _ _ _ _ h⟩
theorem row_take {w : World} {a : Option Addr} {F : List Nat} (h : Row w a F) (m : Nat) : Row w a (F.take m) := by
  rcases h with h | ⟨b, o, e, hlt, hc⟩
  · exact .inl (by rw [List.length_take]; omega)
  · refine .inr ⟨b, o, e, hlt, fun i hi => ?_⟩
    rw [List.length_take] at hi
    rw [hc i (by omega)]
    unfold at0
    rw [List.getD_eq_getElem?_getD, List.getD_eq_getElem?_getD, List.getElem?_take_of_lt (by omega)]
theorem rowA_less {w : World} {a : Option Addr} {n m : Nat} {A : Nat → Nat → Int} (h : RowA w a n A) (hm : m ≤ n) : RowA w a m A := by
  rcases h with h | ⟨b, o, e, hlt, hc⟩
  · exact .inl (by omega)
  · exact .inr ⟨b, o, e, hlt, fun i hi => hc i (by omega)⟩
theorem rowZ_less {w : World} {a : Option Addr} {n m : Nat} {S : Nat → Int} (h : RowZ w a n S) (hm : m ≤ n) : RowZ w a m S := by
  rcases h with h | ⟨b, o, e, hlt, hc⟩
  · exact .inl (by omega)
  · exact .inr ⟨b, o, e, hlt, fun i hi => hc i (by omega)⟩

set_option maxRecDepth 100000 in
set_option maxHeartbeats 4000000 in
theorem walk (a b c : Option Addr) (ca cb cc n k : Nat) (zs : List Nat) (A : Nat → Nat → Int) (S : Nat → Int) (l : Nat) (w : World) (h : CameC w a b c ca cb cc n k zs A S) (hbn : b = none → n = 0 ∧ cb = 0) (hn40 : n * 40 ≤ 140737488351232) (hk8 : k * 8 ≤ 140737488351232) :
    Calls Try.prog 4 #[.agg #[.slice a zs.length ca, .slice b n cb, .slice c k cc], .int .u64 (l : Int)] w fun e w' => e = .returned (.bool true) ∧ Below w.heap.size w w' := by
  have hz8 := h.lab.size
  have h64 := h.lab.all
  have hna := h.lab.none
  have hnc := h.none
  have hb0 : Below w.heap.size w (w.alloc (.cells #[.slice a zs.length ca, .slice b n cb, .slice c k cc] 44)) := (Below.refl _ _).alloc (Nat.le_refl _) _
  have hcf := config_any a b c ca cb cc n k zs A S _ (h.lab.row.below hb0) (by omega) (h.acc.below hb0) h.accs (h.ses.below hb0) h.none h.sess
  have hnew := heap_alloc_new w (.cells #[.slice a zs.length ca, .slice b n cb, .slice c k cc] 44)
  have HH := hide_it' h
  have HB0 := hide_it' hb0
  have HN := hide_it' hnew
  clear h hb0 hnew
  go_enter Try.func4, Try.ntmps4
  go_wp2_with fail
  refine hcf.mono ?_
  rintro e w1 ⟨⟨a2, b2, c2, ca2, cb2, cc2, rfl, hra, hrA, hrz⟩, hb1⟩
  have hs1 := hb1.size
  simp only [World.size_alloc] at hs1
  have hb01 := HB0.out.trans (hb1.mono HB0.out.size)
  have hq1 := (hb1.block w.heap.size (by simp)).trans HN.out
  have hb2 : Below w1.heap.size w1 (w1.alloc (.cells #[.slice a2 zs.length ca2, .slice b2 n cb2, .slice c2 k cc2] 47)) := (Below.refl _ _).alloc (Nat.le_refl _) _
  have hbw2 := hb01.trans (hb2.mono hb01.size)
  have hq2 := (hb2.block w.heap.size (by omega)).trans hq1
  have hwant := heap_alloc_new w1 (.cells #[.slice a2 zs.length ca2, .slice b2 n cb2, .slice c2 k cc2] 47)
  obtain ⟨q0, q1, q2⟩ := cells3 hq2
  have hrm := room_any a ca zs _ (HH.out.lab.row.below hbw2) (by omega) hna
  have HRa := hide_it' (hra.below hb2)
  have HRA := hide_it' (hrA.below hb2)
  have HRz := hide_it' (hrz.below hb2)
  have HQ := hide_it' hq2
  have HWA := hide_it' hwant
  have HBW := hide_it' hbw2
  obtain ⟨W2, hW2⟩ : ∃ W2, W2 = w1.alloc (.cells #[.slice a2 zs.length ca2, .slice b2 n cb2, .slice c2 k cc2] 47) := ⟨_, rfl⟩
  have hs2 : W2.heap.size = w1.heap.size + 1 := by rw [hW2]; simp
  have HW2 := hide_it' hW2
  clear hcf hb1 hb01 hq1 hb2 hbw2 hq2 hwant hra hrA hrz hW2 HB0 HN
  go_wp2_with fail
  rw [← HW2.out] at hrm HRa HRA HRz HQ HWA HBW q0 q1 q2 ⊢
  clear HW2
  refine hrm.mono ?_
  rintro e w3 ⟨⟨r3, rfl, ho3⟩, hb3⟩
  obtain ⟨F, hF⟩ : ∃ F, F = zs ++ marks 70 := ⟨_, rfl⟩
  rw [← hF] at ho3
  obtain ⟨a3, c3, hv3, hr3, hf3, _, hn3⟩ := ho3.row
  subst hv3
  have hFl : Hid (F.length = zs.length + 70) := by unfold Hid; rw [hF, List.length_append, marks_len]
  have hFz : zs.length ≤ F.length := by rw [hFl.out]; omega
  have hF8 : F.length * 8 ≤ 140737488355328 := by rw [hFl.out]; omega
  have HFt : Hid (F.take zs.length = zs) := by unfold Hid; rw [hF]; exact List.take_left' rfl
  have HF1 : Hid (∀ i, i < zs.length → at0 F i = at0 zs i) := fun i hi => by
    rw [hF]; unfold at0; rw [List.getD_eq_getElem?_getD, List.getD_eq_getElem?_getD, List.getElem?_append_left hi]
  have HF2 : Hid (∀ i, zs.length ≤ i → i < F.length → at0 F i = 9000 + (i - zs.length)) := fun i h1 h2 => by
    have h3 := hFl.out
    rw [hF]
    rw [← marks_at (k := 70) (i := i - zs.length) (by omega)]
    unfold at0; rw [List.getD_eq_getElem?_getD, List.getD_eq_getElem?_getD, List.getElem?_append_right h1]
  have hc3 : zs.length ≤ c3 := by omega
  have hs3 := hb3.size
  obtain ⟨g0, g1, g2⟩ := cells3 ((hb3.block w.heap.size (by omega)).trans HQ.out)
  have HR3 := hide_it' hr3
  have HB3 := hide_it' hb3
  clear hrm ho3 hr3 hb3 hF hf3 hn3 q0 q1 q2
  have hbw3 := HBW.out.trans (HB3.out.mono (by have := HBW.out.size; omega))
  have hrb := HH.out.acc.below hbw3
  have hrc : ∀ W, Below w3.heap.size w3 W → RowZ W c k S := fun W hW => (HH.out.ses.below hbw3).below hW
  obtain ⟨N2, hN2⟩ : ∃ N2, N2 = n + 2 := ⟨_, rfl⟩
  obtain ⟨K3, hK3⟩ : ∃ K3, K3 = k + 3 := ⟨_, rfl⟩
  have HN2 := hide_it' hN2
  have HK3 := hide_it' hK3
  clear hN2 hK3
  obtain ⟨i1, hi1, hz0, hz1, hz2⟩ := info_parts infoA2
  obtain ⟨i2, hi2, hy0, hy1, hy2⟩ := info_parts infoIntM
  have HQ3 := hide_it' ((HB3.out.block w.heap.size (by omega)).trans HQ.out)
  have hone2 : ∀ u ∈ two2, u.oneCell' = true := by simp [two2, Value.oneCell']
  have hone3 : ∀ u ∈ three3, u.oneCell' = true := by simp [three3, Value.oneCell']
  go_wp2_with (first | (at_builtin; refine wpList_append_rowA _ rfl _ _ rfl w3.heap.size rfl b n cb A rfl hrb hbn (by omega) (Nat.le_refl _) ?_; intro v4 w4 hown4 hg4; have hb4 : Below w3.heap.size w3 w4 := (Below.refl _ _).grown hg4 (Nat.le_refl _) (fun j e => by cases e)) | (at_builtin; refine wpList_append_own_at _ rfl _ _ 41 rfl w3.heap.size 50 i1 (.agg #[.int .i64 0, .int .i64 0, .int .i64 0, .int .i64 0, .int .i64 0]) 5 40 Try.underlying41 hi1 hz0 hz1 hz2 rfl (by omega) _ n (accsL A n) rfl (hown4.alloc _) ⟨w4.heap.size, 0, none⟩ 2 2 two2 rfl rfl (cells_new w4 50 two2) hone2 (by unfold maxLen; omega) (by omega) (by have := hb4.size; simp; omega) ?_; intro v5 w5 hown5 hg5 _ _; rw [accs2_all, ← HN2.out] at hown5; have hb5 : Below w3.heap.size w3 w5 := (hb4.alloc hb4.size _).grown hg5 (by have := hb4.size; simp; omega) (fun j e => (hown4.lt j e).1); obtain ⟨aB, cB, hvB, hcB, hrB⟩ := rowA_of_ownsT hown5; subst hvB; obtain ⟨g5, g6, g7⟩ := cells3 ((hb5.block w.heap.size (by omega)).trans HQ3.out); have hrz5 := hrc _ hb5) | (at_builtin; refine wpList_append_rowZ _ rfl _ _ rfl w5.heap.size rfl c k cc S rfl hrz5 hnc (by omega) (Nat.le_refl _) ?_; intro v6 w6 hown6 hg6; have hb6 : Below w5.heap.size w5 w6 := (Below.refl _ _).grown hg6 (Nat.le_refl _) (fun j e => by cases e)) | (at_builtin; refine wpList_append_own_at _ rfl _ _ 42 rfl w5.heap.size 3 i2 (.int .i64 0) 1 8 Try.underlying42 hi2 hy0 hy1 hy2 rfl (by omega) _ k (sesL S k) rfl (hown6.alloc _) ⟨w6.heap.size, 0, none⟩ 3 3 three3 rfl rfl (cells_new w6 3 three3) hone3 (by unfold maxLen; omega) (by omega) (by have := hb6.size; simp; omega) ?_; intro v7 w7 hown7 hg7 _ _; rw [sess3_all, ← HK3.out] at hown7; have hb7 : Below w5.heap.size w5 w7 := (hb6.alloc hb6.size _).grown hg7 (by have := hb6.size; simp; omega) (fun j e => (hown6.lt j e).1); obtain ⟨aC, cC, hvC, hcC, hrC⟩ := rowZ_of_ownsT hown7; subst hvC))
  have hb37 := hb5.trans (hb7.mono hb5.size)
  have HRB := hide_it' (hrB.below hb7)
  have HRC := hide_it' hrC
  have HR7 := hide_it' (HR3.out.below hb37)
  have HB37 := hide_it' hb37
  have HBW7 := hide_it' (hbw3.trans (hb37.mono hbw3.size))
  have HQ7 := hide_it' ((hb37.block w.heap.size (by omega)).trans HQ3.out)
  have HWA7 := hide_it' ((hb37.block w1.heap.size (by omega)).trans ((HB3.out.block w1.heap.size (by omega)).trans HWA.out))
  have HRa7 := hide_it' ((HRa.out.below HB3.out).below hb37)
  have HRA7 := hide_it' ((HRA.out.below HB3.out).below hb37)
  have HRz7 := hide_it' ((HRz.out.below HB3.out).below hb37)
  have hs37 := hb37.size
  have hnN : n ≤ N2 := by rw [HN2.out]; omega
  have hkK : k ≤ K3 := by rw [HK3.out]; omega
  have hncB : n ≤ cB := by omega
  have hkcC : k ≤ cC := by omega
  have hN40 : N2 * 40 ≤ 140737488355328 := by rw [HN2.out]; omega
  have hK8 : K3 * 8 ≤ 140737488355328 := by rw [HK3.out]; omega
  clear hown4 hown5 hown6 hown7 hg4 hg5 hg6 hg7 hb4 hb5 hb6 hb7 hb37 hbw3 hrb hrc hrB hrC hrz5 g0 g1 g2 g5 g6 g7 hi1 hz0 hz1 hz2 hi2 hy0 hy1 hy2 hone2 hone3 HRa HRA HRz HQ HWA HBW HR3 HB3 HQ3
  have hl7 : w.heap.size < w7.heap.size := by omega
  obtain ⟨q0, q1, q2⟩ := cells3 HQ7.out
  have hH0 : Below w7.heap.size w7 w7.drew := (Below.refl _ _).drew
  go_wp2_with fail
  refine wp_region_held_drew (S := (fun w' => Below w7.heap.size w7 w')) (by kernel_rfl) ?_ (fun hHeld => ?_)
  · exact (Below.refl _ _).drew
  refine take_on (i := 0) (v := ?_) rfl rfl (by kernel_rfl) (by kernel_rfl) (by kernel_rfl) (fun _ _ _ h => h) rfl ?_ hHeld ?_
  rotate_left
  · (intro wq hSq; have hq0 := (hSq.cell (p := ⟨w.heap.size, 0, none⟩) hl7).trans q0; have hq1 := (hSq.cell (p := ⟨w.heap.size, 1, none⟩) hl7).trans q1; have hq2 := (hSq.cell (p := ⟨w.heap.size, 2, none⟩) hl7).trans q2; go_simp <;> first | with_reducible rfl | rfl)
  simp only [Act.put, List.setIfInBounds_toArray, List.set_cons_zero, List.set_cons_succ]
  refine take_on (i := 1) (v := ?_) rfl rfl (by kernel_rfl) (by kernel_rfl) (by kernel_rfl) (fun _ _ _ h => h) rfl ?_ hHeld ?_
  rotate_left
  · (intro wq hSq; have hq0 := (hSq.cell (p := ⟨w.heap.size, 0, none⟩) hl7).trans q0; have hq1 := (hSq.cell (p := ⟨w.heap.size, 1, none⟩) hl7).trans q1; have hq2 := (hSq.cell (p := ⟨w.heap.size, 2, none⟩) hl7).trans q2; go_simp <;> first | with_reducible rfl | rfl)
  simp only [Act.put, List.setIfInBounds_toArray, List.set_cons_zero, List.set_cons_succ]
  refine take_on (i := 2) (v := ?_) rfl rfl (by kernel_rfl) (by kernel_rfl) (by kernel_rfl) (fun _ _ _ h => h) rfl ?_ hHeld ?_
  rotate_left
  · (intro wq hSq; have hq0 := (hSq.cell (p := ⟨w.heap.size, 0, none⟩) hl7).trans q0; have hq1 := (hSq.cell (p := ⟨w.heap.size, 1, none⟩) hl7).trans q1; have hq2 := (hSq.cell (p := ⟨w.heap.size, 2, none⟩) hl7).trans q2; go_simp <;> first | with_reducible rfl | rfl)
  simp only [Act.put, List.setIfInBounds_toArray, List.set_cons_zero, List.set_cons_succ]
  refine take_on (i := 3) (v := ?_) rfl rfl (by kernel_rfl) (by kernel_rfl) (by kernel_rfl) (fun _ _ _ h => h) rfl ?_ hHeld ?_
  rotate_left
  · (intro wq hSq; have hq0 := (hSq.cell (p := ⟨w.heap.size, 0, none⟩) hl7).trans q0; have hq1 := (hSq.cell (p := ⟨w.heap.size, 1, none⟩) hl7).trans q1; have hq2 := (hSq.cell (p := ⟨w.heap.size, 2, none⟩) hl7).trans q2; go_simp <;> first | with_reducible rfl | rfl)
  simp only [Act.put, List.setIfInBounds_toArray, List.set_cons_zero, List.set_cons_succ]
  refine take_on (i := 4) (v := ?_) rfl rfl (by kernel_rfl) (by kernel_rfl) (by kernel_rfl) (fun _ _ _ h => h) rfl ?_ hHeld ?_
  rotate_left
  · (intro wq hSq; have hq0 := (hSq.cell (p := ⟨w.heap.size, 0, none⟩) hl7).trans q0; have hq1 := (hSq.cell (p := ⟨w.heap.size, 1, none⟩) hl7).trans q1; have hq2 := (hSq.cell (p := ⟨w.heap.size, 2, none⟩) hl7).trans q2; go_simp <;> first | with_reducible rfl | rfl)
  simp only [Act.put, List.setIfInBounds_toArray, List.set_cons_zero, List.set_cons_succ]
  refine take_on (i := 5) (v := ?_) rfl rfl (by kernel_rfl) (by kernel_rfl) (by kernel_rfl) (fun _ _ _ h => h) rfl ?_ hHeld ?_
  rotate_left
  · (intro wq hSq; have hq0 := (hSq.cell (p := ⟨w.heap.size, 0, none⟩) hl7).trans q0; have hq1 := (hSq.cell (p := ⟨w.heap.size, 1, none⟩) hl7).trans q1; have hq2 := (hSq.cell (p := ⟨w.heap.size, 2, none⟩) hl7).trans q2; go_simp <;> first | with_reducible rfl | rfl)
  simp only [Act.put, List.setIfInBounds_toArray, List.set_cons_zero, List.set_cons_succ]
  refine take_on (i := 6) (v := ?_) rfl rfl (by kernel_rfl) (by kernel_rfl) (by kernel_rfl) (fun _ _ _ h => h) rfl ?_ hHeld ?_
  rotate_left
  · (intro wq hSq; have hq0 := (hSq.cell (p := ⟨w.heap.size, 0, none⟩) hl7).trans q0; have hq1 := (hSq.cell (p := ⟨w.heap.size, 1, none⟩) hl7).trans q1; have hq2 := (hSq.cell (p := ⟨w.heap.size, 2, none⟩) hl7).trans q2; go_simp <;> first | with_reducible rfl | rfl)
  simp only [Act.put, List.setIfInBounds_toArray, List.set_cons_zero, List.set_cons_succ]
  refine take_on (i := 7) (v := ?_) rfl rfl (by kernel_rfl) (by kernel_rfl) (by kernel_rfl) (fun _ _ _ h => h) rfl ?_ hHeld ?_
  rotate_left
  · (intro wq hSq; have hq0 := (hSq.cell (p := ⟨w.heap.size, 0, none⟩) hl7).trans q0; have hq1 := (hSq.cell (p := ⟨w.heap.size, 1, none⟩) hl7).trans q1; have hq2 := (hSq.cell (p := ⟨w.heap.size, 2, none⟩) hl7).trans q2; go_simp <;> first | with_reducible rfl | rfl)
  simp only [Act.put, List.setIfInBounds_toArray, List.set_cons_zero, List.set_cons_succ]
  refine take_on (i := 8) (v := ?_) rfl rfl (by kernel_rfl) (by kernel_rfl) (by kernel_rfl) (fun _ _ _ h => h) rfl ?_ hHeld ?_
  rotate_left
  · (intro wq hSq; have hq0 := (hSq.cell (p := ⟨w.heap.size, 0, none⟩) hl7).trans q0; have hq1 := (hSq.cell (p := ⟨w.heap.size, 1, none⟩) hl7).trans q1; have hq2 := (hSq.cell (p := ⟨w.heap.size, 2, none⟩) hl7).trans q2; go_simp <;> first | with_reducible rfl | rfl)
  simp only [Act.put, List.setIfInBounds_toArray, List.set_cons_zero, List.set_cons_succ]
  refine take_on (i := 9) (v := ?_) rfl rfl (by kernel_rfl) (by kernel_rfl) (by kernel_rfl) (fun _ _ _ h => h) rfl ?_ hHeld ?_
  rotate_left
  · (intro wq hSq; have hq0 := (hSq.cell (p := ⟨w.heap.size, 0, none⟩) hl7).trans q0; have hq1 := (hSq.cell (p := ⟨w.heap.size, 1, none⟩) hl7).trans q1; have hq2 := (hSq.cell (p := ⟨w.heap.size, 2, none⟩) hl7).trans q2; go_simp <;> first | with_reducible rfl | rfl)
  simp only [Act.put, List.setIfInBounds_toArray, List.set_cons_zero, List.set_cons_succ]
  refine take_on (i := 10) (v := ?_) rfl rfl (by kernel_rfl) (by kernel_rfl) (by kernel_rfl) (fun _ _ _ h => h) rfl ?_ hHeld ?_
  rotate_left
  · (intro wq hSq; have hq0 := (hSq.cell (p := ⟨w.heap.size, 0, none⟩) hl7).trans q0; have hq1 := (hSq.cell (p := ⟨w.heap.size, 1, none⟩) hl7).trans q1; have hq2 := (hSq.cell (p := ⟨w.heap.size, 2, none⟩) hl7).trans q2; go_simp <;> first | with_reducible rfl | rfl)
  simp only [Act.put, List.setIfInBounds_toArray, List.set_cons_zero, List.set_cons_succ]
  refine take_on (i := 11) (v := ?_) rfl rfl (by kernel_rfl) (by kernel_rfl) (by kernel_rfl) (fun _ _ _ h => h) rfl ?_ hHeld ?_
  rotate_left
  · (intro wq hSq; have hq0 := (hSq.cell (p := ⟨w.heap.size, 0, none⟩) hl7).trans q0; have hq1 := (hSq.cell (p := ⟨w.heap.size, 1, none⟩) hl7).trans q1; have hq2 := (hSq.cell (p := ⟨w.heap.size, 2, none⟩) hl7).trans q2; go_simp <;> first | with_reducible rfl | rfl)
  simp only [Act.put, List.setIfInBounds_toArray, List.set_cons_zero, List.set_cons_succ]
  refine take_on (i := 12) (v := ?_) rfl rfl (by kernel_rfl) (by kernel_rfl) (by kernel_rfl) (fun _ _ _ h => h) rfl ?_ hHeld ?_
  rotate_left
  · (intro wq hSq; have hq0 := (hSq.cell (p := ⟨w.heap.size, 0, none⟩) hl7).trans q0; have hq1 := (hSq.cell (p := ⟨w.heap.size, 1, none⟩) hl7).trans q1; have hq2 := (hSq.cell (p := ⟨w.heap.size, 2, none⟩) hl7).trans q2; go_simp <;> first | with_reducible rfl | rfl)
  simp only [Act.put, List.setIfInBounds_toArray, List.set_cons_zero, List.set_cons_succ]
  refine take_on (i := 13) (v := ?_) rfl rfl (by kernel_rfl) (by kernel_rfl) (by kernel_rfl) (fun _ _ _ h => h) rfl ?_ hHeld ?_
  rotate_left
  · (intro wq hSq; have hq0 := (hSq.cell (p := ⟨w.heap.size, 0, none⟩) hl7).trans q0; have hq1 := (hSq.cell (p := ⟨w.heap.size, 1, none⟩) hl7).trans q1; have hq2 := (hSq.cell (p := ⟨w.heap.size, 2, none⟩) hl7).trans q2; go_simp <;> first | with_reducible rfl | rfl)
  simp only [Act.put, List.setIfInBounds_toArray, List.set_cons_zero, List.set_cons_succ]
  refine take_on (i := 14) (v := ?_) rfl rfl (by kernel_rfl) (by kernel_rfl) (by kernel_rfl) (fun _ _ _ h => h) rfl ?_ hHeld ?_
  rotate_left
  · (intro wq hSq; have hq0 := (hSq.cell (p := ⟨w.heap.size, 0, none⟩) hl7).trans q0; have hq1 := (hSq.cell (p := ⟨w.heap.size, 1, none⟩) hl7).trans q1; have hq2 := (hSq.cell (p := ⟨w.heap.size, 2, none⟩) hl7).trans q2; go_simp <;> first | with_reducible rfl | rfl)
  simp only [Act.put, List.setIfInBounds_toArray, List.set_cons_zero, List.set_cons_succ]
  refine take_on (i := 15) (v := ?_) rfl rfl (by kernel_rfl) (by kernel_rfl) (by kernel_rfl) (fun _ _ _ h => h) rfl ?_ hHeld ?_
  rotate_left
  · (intro wq hSq; have hq0 := (hSq.cell (p := ⟨w.heap.size, 0, none⟩) hl7).trans q0; have hq1 := (hSq.cell (p := ⟨w.heap.size, 1, none⟩) hl7).trans q1; have hq2 := (hSq.cell (p := ⟨w.heap.size, 2, none⟩) hl7).trans q2; go_simp <;> first | with_reducible rfl | rfl)
  simp only [Act.put, List.setIfInBounds_toArray, List.set_cons_zero, List.set_cons_succ]
  refine take_one (i := 16) rfl (by kernel_rfl) (fun K hK => ?_)
  go_simp
  refine hK.out _ _ ?_ (fun hHeld => ?_)
  · exact hHeld.alloc hHeld.size _
  clear hK K
  try simp only [Act.put, List.setIfInBounds_toArray, List.set_cons_zero, List.set_cons_succ]
  refine take_one (i := 17) rfl (by kernel_rfl) (fun K hK => ?_)
  go_simp
  refine hK.out _ _ ?_ (fun hHeld => ?_)
  · exact hH0.alloc hH0.size _
  clear hK K
  try simp only [Act.put, List.setIfInBounds_toArray, List.set_cons_zero, List.set_cons_succ]
  refine wpAnyH_done (by kernel_rfl) ?_ _
  clear q0 q1 q2 hH0
  have hnew8 := heap_alloc_new w7 (.cells #[.slice a3 zs.length c3, .slice aB n cB, .slice aC k cC] 44)
  have hb8 := hHeld
  have hrz8 : Row (w7.alloc (.cells #[.slice a3 zs.length c3, .slice aB n cB, .slice aC k cC] 44)).drew a3 zs := by have h9 := row_take (HR7.out.below hb8) zs.length; rw [HFt.out] at h9; exact h9
  have hck := check_any a3 c3 zs _ hrz8 h64 (by unfold maxLen; omega) hc3
  have HN8 : Hid ((w7.alloc (.cells #[.slice a3 zs.length c3, .slice aB n cB, .slice aC k cC] 44)).drew.heap[w7.heap.size]? = some (.cells #[.slice a3 zs.length c3, .slice aB n cB, .slice aC k cC] 44 (0, 0))) := hnew8
  have HB8 := hide_it' hb8
  have HR8 := hide_it' hrz8
  clear hHeld hnew8 hb8 hrz8
  go_wp2_with fail
  refine hck.mono ?_
  rintro e w9 ⟨rfl, hb9⟩
  have hb79 := HB8.out.trans (hb9.mono HB8.out.size)
  have hin9 := (hb9.block w7.heap.size (by simp)).trans HN8.out
  have hrz9 := HR8.out.below hb9
  obtain ⟨i0, i1', i2'⟩ := cells3 hin9
  have hpl := place_some a3 c3 zs l w9 hrz9 (by unfold maxLen; omega)
  have hma := may_any a3 aB aC c3 cB cC n k zs (accs2 A n) (sess3 S k) w9 hrz9 h64 (by unfold maxLen; omega) hc3 (rowA_less (HRB.out.below hb79) hnN) (by unfold maxLen; omega) (rowZ_less (HRC.out.below hb79) hkK) (by unfold maxLen; omega)
  have HB79 := hide_it' hb79
  clear hck hb9 hin9 hb79 hrz9 HB8 HR8 HN8
  go_wp2_with fail
  refine hpl.mono ?_
  rintro e w' ⟨⟨vp, rfl⟩, hq⟩
  have hq2 := hq.symm
  subst hq2
  clear hq hpl
  go_wp2_with fail
  refine hma.mono ?_
  rintro e wa ⟨⟨v1, rfl, hv1⟩, hba⟩
  have hb7a := HB79.out.trans (hba.mono HB79.out.size)
  have hsa := hb7a.size
  obtain ⟨m0, m1, m2⟩ := cells3 ((hb7a.block w1.heap.size (by omega)).trans HWA7.out)
  have hkp := kept_any a3 a2 c3 ca2 F zs wa (HR7.out.below hb7a) (HRa7.out.below hb7a) (by omega) hFl HF1.out HF2.out
  have HV1 := hide_it' hv1
  have HB7a := hide_it' hb7a
  clear hma hv1 hba hb7a HB79 i0 i1' i2'
  go_wp2_with fail
  refine hkp.mono ?_
  rintro e wb ⟨rfl, hbb⟩
  have hb7b := HB7a.out.trans (hbb.mono HB7a.out.size)
  have hsb := hb7b.size
  obtain ⟨m3, m4, m5⟩ := cells3 ((hb7b.block w1.heap.size (by omega)).trans HWA7.out)
  have hrm := rmay_any a2 b2 c2 ca2 cb2 cc2 n k zs A S wb (HRa7.out.below hb7b) h64 (by unfold maxLen; omega) (HRA7.out.below hb7b) (HRz7.out.below hb7b)
  have HB7b := hide_it' hb7b
  clear hkp hbb hb7b HB7a m0 m1 m2
  go_wp2_with fail
  refine hrm.mono ?_
  rintro e wc ⟨⟨v2, rfl, hv2⟩, hbc⟩
  have hmc := may_congr (zs := zs) (n := n) (k := k) (A := accs2 A n) (B := A) (S := sess3 S k) (T := S) (fun i hi => by funext j; unfold accs2; rw [if_pos hi]) (fun i hi => by unfold sess3; rw [if_pos hi])
  have hv12 : v2 = v1 := same_may hv2 (HV1.out.trans hmc)
  subst hv12
  have hb7c := HB7b.out.trans (hbc.mono HB7b.out.size)
  have HB7c := hide_it' hb7c
  have hsc := hb7c.size
  have hbv : (v2 != v2) = false := by simp
  clear hrm hv2 hbc hb7c HB7b m3 m4 m5 HV1 hmc
  go_wp2_with fail
  go_loopw [11] (fun i wr => ∃ m q : Nat, m ≤ N2 ∧ i = .int .i64 (m : Int) ∧ wr = wc.drewN q) (fun i _ => N2 - (intOf i).toNat)
  case atStart => exact ⟨0, 0, by omega, rfl, rfl⟩
  case round =>
    obtain ⟨m, q, hm, rfl, hwr⟩ := hrel
    have hbr : Below wc.heap.size wc wr := by rw [hwr]; exact below_drewN (Below.refl _ _) _
    have hb7r := HB7c.out.trans (hbr.mono HB7c.out.size)
    have HWR := hide_it' hwr
    clear hwr hbr
    obtain ⟨t0, t1, t2⟩ := cells3 ((hb7r.block w.heap.size (by omega)).trans HQ7.out)
    obtain ⟨s0, s1, s2⟩ := cells3 ((hb7r.block w1.heap.size (by omega)).trans HWA7.out)
    by_cases hlm : m < N2
    · have hi1 : (m : Int) < (N2 : Int) := by omega
      have hdN : decide ((m : Int) < (N2 : Int)) = true := by simp; omega
      obtain ⟨bB, oB, haB, _, hcB'⟩ := (HRB.out.below hb7r).here hlm
      have u0 := hcB' m hlm 0 (by omega)
      have u1 := hcB' m hlm 1 (by omega)
      have u2 := hcB' m hlm 2 (by omega)
      have u3 := hcB' m hlm 3 (by omega)
      have u4 := hcB' m hlm 4 (by omega)
      rw [Nat.add_zero] at u0
      clear hcB'
      subst haB
      by_cases hz : m < n
      · have hi2 : (m : Int) < (n : Int) := by omega
        have hd1 : decide ((m : Int) < (n : Int)) = true := by simp; omega
        have hd2 : decide (n ≤ m) = false := by simp; omega
        obtain ⟨bb, ob, hab, _, hcb'⟩ := ((HH.out.acc.below HBW7.out).below hb7r).here hz
        have y0 := hcb' m hz 0 (by omega)
        have y1 := hcb' m hz 1 (by omega)
        have y2 := hcb' m hz 2 (by omega)
        have y3 := hcb' m hz 3 (by omega)
        have y4 := hcb' m hz 4 (by omega)
        rw [Nat.add_zero] at y0
        simp only [accs2, if_pos hz] at u0 u1 u2 u3 u4
        clear hcb'
        subst hab
        generalize A m 0 = x0 at *
        generalize A m 1 = x1 at *
        generalize A m 2 = x2 at *
        generalize A m 3 = x3 at *
        generalize A m 4 = x4 at *
        clear hb7r
        go_wp2_with fail
        refine wp_region_held_drew (S := (fun w' => ∀ p : Addr, w'.cell? p = wr.cell? p)) (by kernel_rfl) ?_ (fun hHeld => ?_)
        · exact fun p => rfl
        refine take_on (i := 0) (v := ?_) rfl rfl (by kernel_rfl) (by kernel_rfl) (by kernel_rfl) (fun _ _ _ h => h) rfl ?_ hHeld ?_
        rotate_left
        · (intro wq hSq; have hq0 := (hSq _).trans t1; have hq1 := (hSq _).trans u0; have hq2 := (hSq _).trans u1; have hq3 := (hSq _).trans u2; have hq4 := (hSq _).trans u3; have hq5 := (hSq _).trans u4; have hq6 := (hSq _).trans y0; have hq7 := (hSq _).trans y1; have hq8 := (hSq _).trans y2; have hq9 := (hSq _).trans y3; have hq10 := (hSq _).trans y4; go_simp <;> first | with_reducible rfl | rfl)
        simp only [Act.put, List.setIfInBounds_toArray, List.set_cons_zero, List.set_cons_succ]
        refine take_on (i := 1) (v := ?_) rfl rfl (by kernel_rfl) (by kernel_rfl) (by kernel_rfl) (fun _ _ _ h => h) rfl ?_ hHeld ?_
        rotate_left
        · (intro wq hSq; have hq0 := (hSq _).trans t1; have hq1 := (hSq _).trans u0; have hq2 := (hSq _).trans u1; have hq3 := (hSq _).trans u2; have hq4 := (hSq _).trans u3; have hq5 := (hSq _).trans u4; have hq6 := (hSq _).trans y0; have hq7 := (hSq _).trans y1; have hq8 := (hSq _).trans y2; have hq9 := (hSq _).trans y3; have hq10 := (hSq _).trans y4; go_simp <;> first | with_reducible rfl | rfl)
        simp only [Act.put, List.setIfInBounds_toArray, List.set_cons_zero, List.set_cons_succ]
        refine take_on (i := 2) (v := ?_) rfl rfl (by kernel_rfl) (by kernel_rfl) (by kernel_rfl) (fun _ _ _ h => h) rfl ?_ hHeld ?_
        rotate_left
        · (intro wq hSq; have hq0 := (hSq _).trans t1; have hq1 := (hSq _).trans u0; have hq2 := (hSq _).trans u1; have hq3 := (hSq _).trans u2; have hq4 := (hSq _).trans u3; have hq5 := (hSq _).trans u4; have hq6 := (hSq _).trans y0; have hq7 := (hSq _).trans y1; have hq8 := (hSq _).trans y2; have hq9 := (hSq _).trans y3; have hq10 := (hSq _).trans y4; go_simp <;> first | with_reducible rfl | rfl)
        simp only [Act.put, List.setIfInBounds_toArray, List.set_cons_zero, List.set_cons_succ]
        refine take_on (i := 3) (v := ?_) rfl rfl (by kernel_rfl) (by kernel_rfl) (by kernel_rfl) (fun _ _ _ h => h) rfl ?_ hHeld ?_
        rotate_left
        · (intro wq hSq; have hq0 := (hSq _).trans t1; have hq1 := (hSq _).trans u0; have hq2 := (hSq _).trans u1; have hq3 := (hSq _).trans u2; have hq4 := (hSq _).trans u3; have hq5 := (hSq _).trans u4; have hq6 := (hSq _).trans y0; have hq7 := (hSq _).trans y1; have hq8 := (hSq _).trans y2; have hq9 := (hSq _).trans y3; have hq10 := (hSq _).trans y4; go_simp <;> first | with_reducible rfl | rfl)
        simp only [Act.put, List.setIfInBounds_toArray, List.set_cons_zero, List.set_cons_succ]
        refine take_on (i := 4) (v := ?_) rfl rfl (by kernel_rfl) (by kernel_rfl) (by kernel_rfl) (fun _ _ _ h => h) rfl ?_ hHeld ?_
        rotate_left
        · (intro wq hSq; have hq0 := (hSq _).trans t1; have hq1 := (hSq _).trans u0; have hq2 := (hSq _).trans u1; have hq3 := (hSq _).trans u2; have hq4 := (hSq _).trans u3; have hq5 := (hSq _).trans u4; have hq6 := (hSq _).trans y0; have hq7 := (hSq _).trans y1; have hq8 := (hSq _).trans y2; have hq9 := (hSq _).trans y3; have hq10 := (hSq _).trans y4; go_simp <;> first | with_reducible rfl | rfl)
        simp only [Act.put, List.setIfInBounds_toArray, List.set_cons_zero, List.set_cons_succ]
        refine take_on (i := 5) (v := ?_) rfl rfl (by kernel_rfl) (by kernel_rfl) (by kernel_rfl) (fun _ _ _ h => h) rfl ?_ hHeld ?_
        rotate_left
        · (intro wq hSq; have hq0 := (hSq _).trans t1; have hq1 := (hSq _).trans u0; have hq2 := (hSq _).trans u1; have hq3 := (hSq _).trans u2; have hq4 := (hSq _).trans u3; have hq5 := (hSq _).trans u4; have hq6 := (hSq _).trans y0; have hq7 := (hSq _).trans y1; have hq8 := (hSq _).trans y2; have hq9 := (hSq _).trans y3; have hq10 := (hSq _).trans y4; go_simp <;> first | with_reducible rfl | rfl)
        simp only [Act.put, List.setIfInBounds_toArray, List.set_cons_zero, List.set_cons_succ]
        refine take_on (i := 6) (v := ?_) rfl rfl (by kernel_rfl) (by kernel_rfl) (by kernel_rfl) (fun _ _ _ h => h) rfl ?_ hHeld ?_
        rotate_left
        · (intro wq hSq; have hq0 := (hSq _).trans t1; have hq1 := (hSq _).trans u0; have hq2 := (hSq _).trans u1; have hq3 := (hSq _).trans u2; have hq4 := (hSq _).trans u3; have hq5 := (hSq _).trans u4; have hq6 := (hSq _).trans y0; have hq7 := (hSq _).trans y1; have hq8 := (hSq _).trans y2; have hq9 := (hSq _).trans y3; have hq10 := (hSq _).trans y4; go_simp <;> first | with_reducible rfl | rfl)
        simp only [Act.put, List.setIfInBounds_toArray, List.set_cons_zero, List.set_cons_succ]
        refine take_on (i := 7) (v := ?_) rfl rfl (by kernel_rfl) (by kernel_rfl) (by kernel_rfl) (fun _ _ _ h => h) rfl ?_ hHeld ?_
        rotate_left
        · (intro wq hSq; have hq0 := (hSq _).trans t1; have hq1 := (hSq _).trans u0; have hq2 := (hSq _).trans u1; have hq3 := (hSq _).trans u2; have hq4 := (hSq _).trans u3; have hq5 := (hSq _).trans u4; have hq6 := (hSq _).trans y0; have hq7 := (hSq _).trans y1; have hq8 := (hSq _).trans y2; have hq9 := (hSq _).trans y3; have hq10 := (hSq _).trans y4; go_simp <;> first | with_reducible rfl | rfl)
        simp only [Act.put, List.setIfInBounds_toArray, List.set_cons_zero, List.set_cons_succ]
        refine take_on (i := 8) (v := ?_) rfl rfl (by kernel_rfl) (by kernel_rfl) (by kernel_rfl) (fun _ _ _ h => h) rfl ?_ hHeld ?_
        rotate_left
        · (intro wq hSq; have hq0 := (hSq _).trans t1; have hq1 := (hSq _).trans u0; have hq2 := (hSq _).trans u1; have hq3 := (hSq _).trans u2; have hq4 := (hSq _).trans u3; have hq5 := (hSq _).trans u4; have hq6 := (hSq _).trans y0; have hq7 := (hSq _).trans y1; have hq8 := (hSq _).trans y2; have hq9 := (hSq _).trans y3; have hq10 := (hSq _).trans y4; go_simp <;> first | with_reducible rfl | rfl)
        simp only [Act.put, List.setIfInBounds_toArray, List.set_cons_zero, List.set_cons_succ]
        refine take_on (i := 9) (v := ?_) rfl rfl (by kernel_rfl) (by kernel_rfl) (by kernel_rfl) (fun _ _ _ h => h) rfl ?_ hHeld ?_
        rotate_left
        · (intro wq hSq; have hq0 := (hSq _).trans t1; have hq1 := (hSq _).trans u0; have hq2 := (hSq _).trans u1; have hq3 := (hSq _).trans u2; have hq4 := (hSq _).trans u3; have hq5 := (hSq _).trans u4; have hq6 := (hSq _).trans y0; have hq7 := (hSq _).trans y1; have hq8 := (hSq _).trans y2; have hq9 := (hSq _).trans y3; have hq10 := (hSq _).trans y4; go_simp <;> first | with_reducible rfl | rfl)
        simp only [Act.put, List.setIfInBounds_toArray, List.set_cons_zero, List.set_cons_succ]
        refine take_on (i := 10) (v := ?_) rfl rfl (by kernel_rfl) (by kernel_rfl) (by kernel_rfl) (fun _ _ _ h => h) rfl ?_ hHeld ?_
        rotate_left
        · (intro wq hSq; have hq0 := (hSq _).trans t1; have hq1 := (hSq _).trans u0; have hq2 := (hSq _).trans u1; have hq3 := (hSq _).trans u2; have hq4 := (hSq _).trans u3; have hq5 := (hSq _).trans u4; have hq6 := (hSq _).trans y0; have hq7 := (hSq _).trans y1; have hq8 := (hSq _).trans y2; have hq9 := (hSq _).trans y3; have hq10 := (hSq _).trans y4; go_simp <;> first | with_reducible rfl | rfl)
        simp only [Act.put, List.setIfInBounds_toArray, List.set_cons_zero, List.set_cons_succ]
        refine take_on (i := 11) (v := ?_) rfl rfl (by kernel_rfl) (by kernel_rfl) (by kernel_rfl) (fun _ _ _ h => h) rfl ?_ hHeld ?_
        rotate_left
        · (intro wq hSq; have hq0 := (hSq _).trans t1; have hq1 := (hSq _).trans u0; have hq2 := (hSq _).trans u1; have hq3 := (hSq _).trans u2; have hq4 := (hSq _).trans u3; have hq5 := (hSq _).trans u4; have hq6 := (hSq _).trans y0; have hq7 := (hSq _).trans y1; have hq8 := (hSq _).trans y2; have hq9 := (hSq _).trans y3; have hq10 := (hSq _).trans y4; go_simp <;> first | with_reducible rfl | rfl)
        simp only [Act.put, List.setIfInBounds_toArray, List.set_cons_zero, List.set_cons_succ]
        refine take_on (i := 12) (v := ?_) rfl rfl (by kernel_rfl) (by kernel_rfl) (by kernel_rfl) (fun _ _ _ h => h) rfl ?_ hHeld ?_
        rotate_left
        · (intro wq hSq; have hq0 := (hSq _).trans t1; have hq1 := (hSq _).trans u0; have hq2 := (hSq _).trans u1; have hq3 := (hSq _).trans u2; have hq4 := (hSq _).trans u3; have hq5 := (hSq _).trans u4; have hq6 := (hSq _).trans y0; have hq7 := (hSq _).trans y1; have hq8 := (hSq _).trans y2; have hq9 := (hSq _).trans y3; have hq10 := (hSq _).trans y4; go_simp <;> first | with_reducible rfl | rfl)
        simp only [Act.put, List.setIfInBounds_toArray, List.set_cons_zero, List.set_cons_succ]
        refine take_on (i := 13) (v := ?_) rfl rfl (by kernel_rfl) (by kernel_rfl) (by kernel_rfl) (fun _ _ _ h => h) rfl ?_ hHeld ?_
        rotate_left
        · (intro wq hSq; have hq0 := (hSq _).trans t1; have hq1 := (hSq _).trans u0; have hq2 := (hSq _).trans u1; have hq3 := (hSq _).trans u2; have hq4 := (hSq _).trans u3; have hq5 := (hSq _).trans u4; have hq6 := (hSq _).trans y0; have hq7 := (hSq _).trans y1; have hq8 := (hSq _).trans y2; have hq9 := (hSq _).trans y3; have hq10 := (hSq _).trans y4; go_simp <;> first | with_reducible rfl | rfl)
        simp only [Act.put, List.setIfInBounds_toArray, List.set_cons_zero, List.set_cons_succ]
        refine take_on (i := 14) (v := ?_) rfl rfl (by kernel_rfl) (by kernel_rfl) (by kernel_rfl) (fun _ _ _ h => h) rfl ?_ hHeld ?_
        rotate_left
        · (intro wq hSq; have hq0 := (hSq _).trans t1; have hq1 := (hSq _).trans u0; have hq2 := (hSq _).trans u1; have hq3 := (hSq _).trans u2; have hq4 := (hSq _).trans u3; have hq5 := (hSq _).trans u4; have hq6 := (hSq _).trans y0; have hq7 := (hSq _).trans y1; have hq8 := (hSq _).trans y2; have hq9 := (hSq _).trans y3; have hq10 := (hSq _).trans y4; go_simp <;> first | with_reducible rfl | rfl)
        simp only [Act.put, List.setIfInBounds_toArray, List.set_cons_zero, List.set_cons_succ]
        refine take_on (i := 15) (v := ?_) rfl rfl (by kernel_rfl) (by kernel_rfl) (by kernel_rfl) (fun _ _ _ h => h) rfl ?_ hHeld ?_
        rotate_left
        · (intro wq hSq; have hq0 := (hSq _).trans t1; have hq1 := (hSq _).trans u0; have hq2 := (hSq _).trans u1; have hq3 := (hSq _).trans u2; have hq4 := (hSq _).trans u3; have hq5 := (hSq _).trans u4; have hq6 := (hSq _).trans y0; have hq7 := (hSq _).trans y1; have hq8 := (hSq _).trans y2; have hq9 := (hSq _).trans y3; have hq10 := (hSq _).trans y4; go_simp <;> first | with_reducible rfl | rfl)
        simp only [Act.put, List.setIfInBounds_toArray, List.set_cons_zero, List.set_cons_succ]
        refine take_on (i := 16) (v := ?_) rfl rfl (by kernel_rfl) (by kernel_rfl) (by kernel_rfl) (fun _ _ _ h => h) rfl ?_ hHeld ?_
        rotate_left
        · (intro wq hSq; have hq0 := (hSq _).trans t1; have hq1 := (hSq _).trans u0; have hq2 := (hSq _).trans u1; have hq3 := (hSq _).trans u2; have hq4 := (hSq _).trans u3; have hq5 := (hSq _).trans u4; have hq6 := (hSq _).trans y0; have hq7 := (hSq _).trans y1; have hq8 := (hSq _).trans y2; have hq9 := (hSq _).trans y3; have hq10 := (hSq _).trans y4; go_simp <;> first | with_reducible rfl | rfl)
        simp only [Act.put, List.setIfInBounds_toArray, List.set_cons_zero, List.set_cons_succ]
        refine take_on (i := 17) (v := ?_) rfl rfl (by kernel_rfl) (by kernel_rfl) (by kernel_rfl) (fun _ _ _ h => h) rfl ?_ hHeld ?_
        rotate_left
        · (intro wq hSq; have hq0 := (hSq _).trans t1; have hq1 := (hSq _).trans u0; have hq2 := (hSq _).trans u1; have hq3 := (hSq _).trans u2; have hq4 := (hSq _).trans u3; have hq5 := (hSq _).trans u4; have hq6 := (hSq _).trans y0; have hq7 := (hSq _).trans y1; have hq8 := (hSq _).trans y2; have hq9 := (hSq _).trans y3; have hq10 := (hSq _).trans y4; go_simp <;> first | with_reducible rfl | rfl)
        simp only [Act.put, List.setIfInBounds_toArray, List.set_cons_zero, List.set_cons_succ]
        refine take_on (i := 18) (v := ?_) rfl rfl (by kernel_rfl) (by kernel_rfl) (by kernel_rfl) (fun _ _ _ h => h) rfl ?_ hHeld ?_
        rotate_left
        · (intro wq hSq; have hq0 := (hSq _).trans t1; have hq1 := (hSq _).trans u0; have hq2 := (hSq _).trans u1; have hq3 := (hSq _).trans u2; have hq4 := (hSq _).trans u3; have hq5 := (hSq _).trans u4; have hq6 := (hSq _).trans y0; have hq7 := (hSq _).trans y1; have hq8 := (hSq _).trans y2; have hq9 := (hSq _).trans y3; have hq10 := (hSq _).trans y4; go_simp <;> first | with_reducible rfl | rfl)
        simp only [Act.put, List.setIfInBounds_toArray, List.set_cons_zero, List.set_cons_succ]
        refine take_on (i := 19) (v := ?_) rfl rfl (by kernel_rfl) (by kernel_rfl) (by kernel_rfl) (fun _ _ _ h => h) rfl ?_ hHeld ?_
        rotate_left
        · (intro wq hSq; have hq0 := (hSq _).trans t1; have hq1 := (hSq _).trans u0; have hq2 := (hSq _).trans u1; have hq3 := (hSq _).trans u2; have hq4 := (hSq _).trans u3; have hq5 := (hSq _).trans u4; have hq6 := (hSq _).trans y0; have hq7 := (hSq _).trans y1; have hq8 := (hSq _).trans y2; have hq9 := (hSq _).trans y3; have hq10 := (hSq _).trans y4; go_simp <;> first | with_reducible rfl | rfl)
        simp only [Act.put, List.setIfInBounds_toArray, List.set_cons_zero, List.set_cons_succ]
        refine take_on (i := 20) (v := ?_) rfl rfl (by kernel_rfl) (by kernel_rfl) (by kernel_rfl) (fun _ _ _ h => h) rfl ?_ hHeld ?_
        rotate_left
        · (intro wq hSq; have hq0 := (hSq _).trans t1; have hq1 := (hSq _).trans u0; have hq2 := (hSq _).trans u1; have hq3 := (hSq _).trans u2; have hq4 := (hSq _).trans u3; have hq5 := (hSq _).trans u4; have hq6 := (hSq _).trans y0; have hq7 := (hSq _).trans y1; have hq8 := (hSq _).trans y2; have hq9 := (hSq _).trans y3; have hq10 := (hSq _).trans y4; go_simp <;> first | with_reducible rfl | rfl)
        simp only [Act.put, List.setIfInBounds_toArray, List.set_cons_zero, List.set_cons_succ]
        refine take_on (i := 21) (v := ?_) rfl rfl (by kernel_rfl) (by kernel_rfl) (by kernel_rfl) (fun _ _ _ h => h) rfl ?_ hHeld ?_
        rotate_left
        · (intro wq hSq; have hq0 := (hSq _).trans t1; have hq1 := (hSq _).trans u0; have hq2 := (hSq _).trans u1; have hq3 := (hSq _).trans u2; have hq4 := (hSq _).trans u3; have hq5 := (hSq _).trans u4; have hq6 := (hSq _).trans y0; have hq7 := (hSq _).trans y1; have hq8 := (hSq _).trans y2; have hq9 := (hSq _).trans y3; have hq10 := (hSq _).trans y4; go_simp <;> first | with_reducible rfl | rfl)
        simp only [Act.put, List.setIfInBounds_toArray, List.set_cons_zero, List.set_cons_succ]
        refine take_on (i := 22) (v := ?_) rfl rfl (by kernel_rfl) (by kernel_rfl) (by kernel_rfl) (fun _ _ _ h => h) rfl ?_ hHeld ?_
        rotate_left
        · (intro wq hSq; have hq0 := (hSq _).trans t1; have hq1 := (hSq _).trans u0; have hq2 := (hSq _).trans u1; have hq3 := (hSq _).trans u2; have hq4 := (hSq _).trans u3; have hq5 := (hSq _).trans u4; have hq6 := (hSq _).trans y0; have hq7 := (hSq _).trans y1; have hq8 := (hSq _).trans y2; have hq9 := (hSq _).trans y3; have hq10 := (hSq _).trans y4; go_simp <;> first | with_reducible rfl | rfl)
        simp only [Act.put, List.setIfInBounds_toArray, List.set_cons_zero, List.set_cons_succ]
        refine take_on (i := 23) (v := ?_) rfl rfl (by kernel_rfl) (by kernel_rfl) (by kernel_rfl) (fun _ _ _ h => h) rfl ?_ hHeld ?_
        rotate_left
        · (intro wq hSq; have hq0 := (hSq _).trans t1; have hq1 := (hSq _).trans u0; have hq2 := (hSq _).trans u1; have hq3 := (hSq _).trans u2; have hq4 := (hSq _).trans u3; have hq5 := (hSq _).trans u4; have hq6 := (hSq _).trans y0; have hq7 := (hSq _).trans y1; have hq8 := (hSq _).trans y2; have hq9 := (hSq _).trans y3; have hq10 := (hSq _).trans y4; go_simp <;> first | with_reducible rfl | rfl)
        simp only [Act.put, List.setIfInBounds_toArray, List.set_cons_zero, List.set_cons_succ]
        refine take_off (i := 24) rfl rfl (by kernel_rfl) (by kernel_rfl) (by kernel_rfl) (fun _ _ _ h => h) rfl hHeld ?_
        simp only [Act.put, List.setIfInBounds_toArray, List.set_cons_zero, List.set_cons_succ]
        refine take_off (i := 25) rfl rfl (by kernel_rfl) (by kernel_rfl) (by kernel_rfl) (fun _ _ _ h => h) rfl hHeld ?_
        simp only [Act.put, List.setIfInBounds_toArray, List.set_cons_zero, List.set_cons_succ]
        refine take_off (i := 26) rfl rfl (by kernel_rfl) (by kernel_rfl) (by kernel_rfl) (fun _ _ _ h => h) rfl hHeld ?_
        simp only [Act.put, List.setIfInBounds_toArray, List.set_cons_zero, List.set_cons_succ]
        refine take_off (i := 27) rfl rfl (by kernel_rfl) (by kernel_rfl) (by kernel_rfl) (fun _ _ _ h => h) rfl hHeld ?_
        simp only [Act.put, List.setIfInBounds_toArray, List.set_cons_zero, List.set_cons_succ]
        refine take_off (i := 28) rfl rfl (by kernel_rfl) (by kernel_rfl) (by kernel_rfl) (fun _ _ _ h => h) rfl hHeld ?_
        simp only [Act.put, List.setIfInBounds_toArray, List.set_cons_zero, List.set_cons_succ]
        refine take_off (i := 29) rfl rfl (by kernel_rfl) (by kernel_rfl) (by kernel_rfl) (fun _ _ _ h => h) rfl hHeld ?_
        simp only [Act.put, List.setIfInBounds_toArray, List.set_cons_zero, List.set_cons_succ]
        refine take_off (i := 30) rfl rfl (by kernel_rfl) (by kernel_rfl) (by kernel_rfl) (fun _ _ _ h => h) rfl hHeld ?_
        simp only [Act.put, List.setIfInBounds_toArray, List.set_cons_zero, List.set_cons_succ]
        refine take_off (i := 31) rfl rfl (by kernel_rfl) (by kernel_rfl) (by kernel_rfl) (fun _ _ _ h => h) rfl hHeld ?_
        simp only [Act.put, List.setIfInBounds_toArray, List.set_cons_zero, List.set_cons_succ]
        refine take_off (i := 32) rfl rfl (by kernel_rfl) (by kernel_rfl) (by kernel_rfl) (fun _ _ _ h => h) rfl hHeld ?_
        simp only [Act.put, List.setIfInBounds_toArray, List.set_cons_zero, List.set_cons_succ]
        refine take_off (i := 33) rfl rfl (by kernel_rfl) (by kernel_rfl) (by kernel_rfl) (fun _ _ _ h => h) rfl hHeld ?_
        simp only [Act.put, List.setIfInBounds_toArray, List.set_cons_zero, List.set_cons_succ]
        refine take_off (i := 34) rfl rfl (by kernel_rfl) (by kernel_rfl) (by kernel_rfl) (fun _ _ _ h => h) rfl hHeld ?_
        simp only [Act.put, List.setIfInBounds_toArray, List.set_cons_zero, List.set_cons_succ]
        refine take_off (i := 35) rfl rfl (by kernel_rfl) (by kernel_rfl) (by kernel_rfl) (fun _ _ _ h => h) rfl hHeld ?_
        simp only [Act.put, List.setIfInBounds_toArray, List.set_cons_zero, List.set_cons_succ]
        refine take_on (i := 36) (v := ?_) rfl rfl (by kernel_rfl) (by kernel_rfl) (by kernel_rfl) (fun _ _ _ h => h) rfl ?_ hHeld ?_
        rotate_left
        · (intro wq hSq; have hq0 := (hSq _).trans t1; have hq1 := (hSq _).trans u0; have hq2 := (hSq _).trans u1; have hq3 := (hSq _).trans u2; have hq4 := (hSq _).trans u3; have hq5 := (hSq _).trans u4; have hq6 := (hSq _).trans y0; have hq7 := (hSq _).trans y1; have hq8 := (hSq _).trans y2; have hq9 := (hSq _).trans y3; have hq10 := (hSq _).trans y4; go_simp <;> first | with_reducible rfl | rfl)
        simp only [Act.put, List.setIfInBounds_toArray, List.set_cons_zero, List.set_cons_succ]
        refine take_on (i := 37) (v := ?_) rfl rfl (by kernel_rfl) (by kernel_rfl) (by kernel_rfl) (fun _ _ _ h => h) rfl ?_ hHeld ?_
        rotate_left
        · (intro wq hSq; have hq0 := (hSq _).trans t1; have hq1 := (hSq _).trans u0; have hq2 := (hSq _).trans u1; have hq3 := (hSq _).trans u2; have hq4 := (hSq _).trans u3; have hq5 := (hSq _).trans u4; have hq6 := (hSq _).trans y0; have hq7 := (hSq _).trans y1; have hq8 := (hSq _).trans y2; have hq9 := (hSq _).trans y3; have hq10 := (hSq _).trans y4; go_simp <;> first | with_reducible rfl | rfl)
        simp only [Act.put, List.setIfInBounds_toArray, List.set_cons_zero, List.set_cons_succ]
        refine wpAnyH_done (by kernel_rfl) ?_ _
        go_wp2_with fail
        go_roundw
        case rel => exact ⟨m + 1, q + 1, by omega, by go_num, by rw [HWR.out]; rfl⟩
        case measure => simp [intOf]; omega
      · have hd1 : decide ((m : Int) < (n : Int)) = false := by simp; omega
        have hd2 : decide (n ≤ m) = true := by simp; omega
        have hz' : ¬ m < n := hz
        simp only [accs2, if_neg hz'] at u0
        have hw1 : IntKind.i64.wrap (11 + (m : Int)) = 11 + (m : Int) := i64_in (by omega) (by omega)
        have hw2 : IntKind.i64.wrap (11 + (m : Int) - (n : Int)) = 11 + (m : Int) - (n : Int) := i64_in (by omega) (by omega)
        have u0' : wr.cell? ⟨bB, oB + m * 5, none⟩ = some (.int .i64 (11 + (m : Int) - (n : Int))) := by rw [u0]; rfl
        clear u0 u1 u2 u3 u4 hz'
        clear hb7r
        go_wp2_with fail
        refine wp_region_held_drew (S := (fun w' => ∀ p : Addr, w'.cell? p = wr.cell? p)) (by kernel_rfl) ?_ (fun hHeld => ?_)
        · exact fun p => rfl
        refine take_on (i := 0) (v := ?_) rfl rfl (by kernel_rfl) (by kernel_rfl) (by kernel_rfl) (fun _ _ _ h => h) rfl ?_ hHeld ?_
        rotate_left
        · (intro wq hSq; have hq0 := (hSq _).trans t1; have hq1 := (hSq _).trans u0'; go_simp <;> first | with_reducible rfl | rfl)
        simp only [Act.put, List.setIfInBounds_toArray, List.set_cons_zero, List.set_cons_succ]
        refine take_on (i := 1) (v := ?_) rfl rfl (by kernel_rfl) (by kernel_rfl) (by kernel_rfl) (fun _ _ _ h => h) rfl ?_ hHeld ?_
        rotate_left
        · (intro wq hSq; have hq0 := (hSq _).trans t1; have hq1 := (hSq _).trans u0'; go_simp <;> first | with_reducible rfl | rfl)
        simp only [Act.put, List.setIfInBounds_toArray, List.set_cons_zero, List.set_cons_succ]
        refine take_on (i := 2) (v := ?_) rfl rfl (by kernel_rfl) (by kernel_rfl) (by kernel_rfl) (fun _ _ _ h => h) rfl ?_ hHeld ?_
        rotate_left
        · (intro wq hSq; have hq0 := (hSq _).trans t1; have hq1 := (hSq _).trans u0'; go_simp <;> first | with_reducible rfl | rfl)
        simp only [Act.put, List.setIfInBounds_toArray, List.set_cons_zero, List.set_cons_succ]
        refine take_on (i := 3) (v := ?_) rfl rfl (by kernel_rfl) (by kernel_rfl) (by kernel_rfl) (fun _ _ _ h => h) rfl ?_ hHeld ?_
        rotate_left
        · (intro wq hSq; have hq0 := (hSq _).trans t1; have hq1 := (hSq _).trans u0'; go_simp <;> first | with_reducible rfl | rfl)
        simp only [Act.put, List.setIfInBounds_toArray, List.set_cons_zero, List.set_cons_succ]
        refine take_on (i := 4) (v := ?_) rfl rfl (by kernel_rfl) (by kernel_rfl) (by kernel_rfl) (fun _ _ _ h => h) rfl ?_ hHeld ?_
        rotate_left
        · (intro wq hSq; have hq0 := (hSq _).trans t1; have hq1 := (hSq _).trans u0'; go_simp <;> first | with_reducible rfl | rfl)
        simp only [Act.put, List.setIfInBounds_toArray, List.set_cons_zero, List.set_cons_succ]
        refine take_on (i := 5) (v := ?_) rfl rfl (by kernel_rfl) (by kernel_rfl) (by kernel_rfl) (fun _ _ _ h => h) rfl ?_ hHeld ?_
        rotate_left
        · (intro wq hSq; have hq0 := (hSq _).trans t1; have hq1 := (hSq _).trans u0'; go_simp <;> first | with_reducible rfl | rfl)
        simp only [Act.put, List.setIfInBounds_toArray, List.set_cons_zero, List.set_cons_succ]
        refine take_off (i := 6) rfl rfl (by kernel_rfl) (by kernel_rfl) (by kernel_rfl) (fun _ _ _ h => h) rfl hHeld ?_
        simp only [Act.put, List.setIfInBounds_toArray, List.set_cons_zero, List.set_cons_succ]
        refine take_off (i := 7) rfl rfl (by kernel_rfl) (by kernel_rfl) (by kernel_rfl) (fun _ _ _ h => h) rfl hHeld ?_
        simp only [Act.put, List.setIfInBounds_toArray, List.set_cons_zero, List.set_cons_succ]
        refine take_off (i := 8) rfl rfl (by kernel_rfl) (by kernel_rfl) (by kernel_rfl) (fun _ _ _ h => h) rfl hHeld ?_
        simp only [Act.put, List.setIfInBounds_toArray, List.set_cons_zero, List.set_cons_succ]
        refine take_off (i := 9) rfl rfl (by kernel_rfl) (by kernel_rfl) (by kernel_rfl) (fun _ _ _ h => h) rfl hHeld ?_
        simp only [Act.put, List.setIfInBounds_toArray, List.set_cons_zero, List.set_cons_succ]
        refine take_off (i := 10) rfl rfl (by kernel_rfl) (by kernel_rfl) (by kernel_rfl) (fun _ _ _ h => h) rfl hHeld ?_
        simp only [Act.put, List.setIfInBounds_toArray, List.set_cons_zero, List.set_cons_succ]
        refine take_off (i := 11) rfl rfl (by kernel_rfl) (by kernel_rfl) (by kernel_rfl) (fun _ _ _ h => h) rfl hHeld ?_
        simp only [Act.put, List.setIfInBounds_toArray, List.set_cons_zero, List.set_cons_succ]
        refine take_off (i := 12) rfl rfl (by kernel_rfl) (by kernel_rfl) (by kernel_rfl) (fun _ _ _ h => h) rfl hHeld ?_
        simp only [Act.put, List.setIfInBounds_toArray, List.set_cons_zero, List.set_cons_succ]
        refine take_off (i := 13) rfl rfl (by kernel_rfl) (by kernel_rfl) (by kernel_rfl) (fun _ _ _ h => h) rfl hHeld ?_
        simp only [Act.put, List.setIfInBounds_toArray, List.set_cons_zero, List.set_cons_succ]
        refine take_off (i := 14) rfl rfl (by kernel_rfl) (by kernel_rfl) (by kernel_rfl) (fun _ _ _ h => h) rfl hHeld ?_
        simp only [Act.put, List.setIfInBounds_toArray, List.set_cons_zero, List.set_cons_succ]
        refine take_off (i := 15) rfl rfl (by kernel_rfl) (by kernel_rfl) (by kernel_rfl) (fun _ _ _ h => h) rfl hHeld ?_
        simp only [Act.put, List.setIfInBounds_toArray, List.set_cons_zero, List.set_cons_succ]
        refine take_on (i := 16) (v := ?_) rfl rfl (by kernel_rfl) (by kernel_rfl) (by kernel_rfl) (fun _ _ _ h => h) rfl ?_ hHeld ?_
        rotate_left
        · (intro wq hSq; have hq0 := (hSq _).trans t1; have hq1 := (hSq _).trans u0'; go_simp <;> first | with_reducible rfl | rfl)
        simp only [Act.put, List.setIfInBounds_toArray, List.set_cons_zero, List.set_cons_succ]
        refine take_on (i := 17) (v := ?_) rfl rfl (by kernel_rfl) (by kernel_rfl) (by kernel_rfl) (fun _ _ _ h => h) rfl ?_ hHeld ?_
        rotate_left
        · (intro wq hSq; have hq0 := (hSq _).trans t1; have hq1 := (hSq _).trans u0'; go_simp <;> first | with_reducible rfl | rfl)
        simp only [Act.put, List.setIfInBounds_toArray, List.set_cons_zero, List.set_cons_succ]
        refine take_on (i := 18) (v := ?_) rfl rfl (by kernel_rfl) (by kernel_rfl) (by kernel_rfl) (fun _ _ _ h => h) rfl ?_ hHeld ?_
        rotate_left
        · (intro wq hSq; have hq0 := (hSq _).trans t1; have hq1 := (hSq _).trans u0'; go_simp <;> first | with_reducible rfl | rfl)
        simp only [Act.put, List.setIfInBounds_toArray, List.set_cons_zero, List.set_cons_succ]
        refine take_on (i := 19) (v := ?_) rfl rfl (by kernel_rfl) (by kernel_rfl) (by kernel_rfl) (fun _ _ _ h => h) rfl ?_ hHeld ?_
        rotate_left
        · (intro wq hSq; have hq0 := (hSq _).trans t1; have hq1 := (hSq _).trans u0'; go_simp <;> first | with_reducible rfl | rfl)
        simp only [Act.put, List.setIfInBounds_toArray, List.set_cons_zero, List.set_cons_succ]
        refine take_on (i := 20) (v := ?_) rfl rfl (by kernel_rfl) (by kernel_rfl) (by kernel_rfl) (fun _ _ _ h => h) rfl ?_ hHeld ?_
        rotate_left
        · (intro wq hSq; have hq0 := (hSq _).trans t1; have hq1 := (hSq _).trans u0'; go_simp <;> first | with_reducible rfl | rfl)
        simp only [Act.put, List.setIfInBounds_toArray, List.set_cons_zero, List.set_cons_succ]
        refine take_on (i := 21) (v := ?_) rfl rfl (by kernel_rfl) (by kernel_rfl) (by kernel_rfl) (fun _ _ _ h => h) rfl ?_ hHeld ?_
        rotate_left
        · (intro wq hSq; have hq0 := (hSq _).trans t1; have hq1 := (hSq _).trans u0'; go_simp <;> first | with_reducible rfl | rfl)
        simp only [Act.put, List.setIfInBounds_toArray, List.set_cons_zero, List.set_cons_succ]
        refine take_on (i := 22) (v := ?_) rfl rfl (by kernel_rfl) (by kernel_rfl) (by kernel_rfl) (fun _ _ _ h => h) rfl ?_ hHeld ?_
        rotate_left
        · (intro wq hSq; have hq0 := (hSq _).trans t1; have hq1 := (hSq _).trans u0'; go_simp <;> first | with_reducible rfl | rfl)
        simp only [Act.put, List.setIfInBounds_toArray, List.set_cons_zero, List.set_cons_succ]
        refine take_on (i := 23) (v := ?_) rfl rfl (by kernel_rfl) (by kernel_rfl) (by kernel_rfl) (fun _ _ _ h => h) rfl ?_ hHeld ?_
        rotate_left
        · (intro wq hSq; have hq0 := (hSq _).trans t1; have hq1 := (hSq _).trans u0'; go_simp <;> first | with_reducible rfl | rfl)
        simp only [Act.put, List.setIfInBounds_toArray, List.set_cons_zero, List.set_cons_succ]
        refine take_on (i := 24) (v := ?_) rfl rfl (by kernel_rfl) (by kernel_rfl) (by kernel_rfl) (fun _ _ _ h => h) rfl ?_ hHeld ?_
        rotate_left
        · (intro wq hSq; have hq0 := (hSq _).trans t1; have hq1 := (hSq _).trans u0'; go_simp <;> first | with_reducible rfl | rfl)
        simp only [Act.put, List.setIfInBounds_toArray, List.set_cons_zero, List.set_cons_succ]
        refine take_on (i := 25) (v := ?_) rfl rfl (by kernel_rfl) (by kernel_rfl) (by kernel_rfl) (fun _ _ _ h => h) rfl ?_ hHeld ?_
        rotate_left
        · (intro wq hSq; have hq0 := (hSq _).trans t1; have hq1 := (hSq _).trans u0'; go_simp <;> first | with_reducible rfl | rfl)
        simp only [Act.put, List.setIfInBounds_toArray, List.set_cons_zero, List.set_cons_succ]
        refine take_on (i := 26) (v := ?_) rfl rfl (by kernel_rfl) (by kernel_rfl) (by kernel_rfl) (fun _ _ _ h => h) rfl ?_ hHeld ?_
        rotate_left
        · (intro wq hSq; have hq0 := (hSq _).trans t1; have hq1 := (hSq _).trans u0'; go_simp <;> first | with_reducible rfl | rfl)
        simp only [Act.put, List.setIfInBounds_toArray, List.set_cons_zero, List.set_cons_succ]
        refine take_on (i := 27) (v := ?_) rfl rfl (by kernel_rfl) (by kernel_rfl) (by kernel_rfl) (fun _ _ _ h => h) rfl ?_ hHeld ?_
        rotate_left
        · (intro wq hSq; have hq0 := (hSq _).trans t1; have hq1 := (hSq _).trans u0'; go_simp <;> first | with_reducible rfl | rfl)
        simp only [Act.put, List.setIfInBounds_toArray, List.set_cons_zero, List.set_cons_succ]
        refine take_on (i := 28) (v := ?_) rfl rfl (by kernel_rfl) (by kernel_rfl) (by kernel_rfl) (fun _ _ _ h => h) rfl ?_ hHeld ?_
        rotate_left
        · (intro wq hSq; have hq0 := (hSq _).trans t1; have hq1 := (hSq _).trans u0'; go_simp <;> first | with_reducible rfl | rfl)
        simp only [Act.put, List.setIfInBounds_toArray, List.set_cons_zero, List.set_cons_succ]
        refine take_on (i := 29) (v := ?_) rfl rfl (by kernel_rfl) (by kernel_rfl) (by kernel_rfl) (fun _ _ _ h => h) rfl ?_ hHeld ?_
        rotate_left
        · (intro wq hSq; have hq0 := (hSq _).trans t1; have hq1 := (hSq _).trans u0'; go_simp <;> first | with_reducible rfl | rfl)
        simp only [Act.put, List.setIfInBounds_toArray, List.set_cons_zero, List.set_cons_succ]
        refine take_on (i := 30) (v := ?_) rfl rfl (by kernel_rfl) (by kernel_rfl) (by kernel_rfl) (fun _ _ _ h => h) rfl ?_ hHeld ?_
        rotate_left
        · (intro wq hSq; have hq0 := (hSq _).trans t1; have hq1 := (hSq _).trans u0'; go_simp <;> first | with_reducible rfl | rfl)
        simp only [Act.put, List.setIfInBounds_toArray, List.set_cons_zero, List.set_cons_succ]
        refine take_on (i := 31) (v := ?_) rfl rfl (by kernel_rfl) (by kernel_rfl) (by kernel_rfl) (fun _ _ _ h => h) rfl ?_ hHeld ?_
        rotate_left
        · (intro wq hSq; have hq0 := (hSq _).trans t1; have hq1 := (hSq _).trans u0'; go_simp <;> first | with_reducible rfl | rfl)
        simp only [Act.put, List.setIfInBounds_toArray, List.set_cons_zero, List.set_cons_succ]
        refine take_on (i := 32) (v := ?_) rfl rfl (by kernel_rfl) (by kernel_rfl) (by kernel_rfl) (fun _ _ _ h => h) rfl ?_ hHeld ?_
        rotate_left
        · (intro wq hSq; have hq0 := (hSq _).trans t1; have hq1 := (hSq _).trans u0'; go_simp <;> first | with_reducible rfl | rfl)
        simp only [Act.put, List.setIfInBounds_toArray, List.set_cons_zero, List.set_cons_succ]
        refine take_on (i := 33) (v := ?_) rfl rfl (by kernel_rfl) (by kernel_rfl) (by kernel_rfl) (fun _ _ _ h => h) rfl ?_ hHeld ?_
        rotate_left
        · (intro wq hSq; have hq0 := (hSq _).trans t1; have hq1 := (hSq _).trans u0'; go_simp <;> first | with_reducible rfl | rfl)
        simp only [Act.put, List.setIfInBounds_toArray, List.set_cons_zero, List.set_cons_succ]
        refine take_on (i := 34) (v := ?_) rfl rfl (by kernel_rfl) (by kernel_rfl) (by kernel_rfl) (fun _ _ _ h => h) rfl ?_ hHeld ?_
        rotate_left
        · (intro wq hSq; have hq0 := (hSq _).trans t1; have hq1 := (hSq _).trans u0'; go_simp <;> first | with_reducible rfl | rfl)
        simp only [Act.put, List.setIfInBounds_toArray, List.set_cons_zero, List.set_cons_succ]
        refine take_on (i := 35) (v := ?_) rfl rfl (by kernel_rfl) (by kernel_rfl) (by kernel_rfl) (fun _ _ _ h => h) rfl ?_ hHeld ?_
        rotate_left
        · (intro wq hSq; have hq0 := (hSq _).trans t1; have hq1 := (hSq _).trans u0'; go_simp <;> first | with_reducible rfl | rfl)
        simp only [Act.put, List.setIfInBounds_toArray, List.set_cons_zero, List.set_cons_succ]
        refine take_on (i := 36) (v := ?_) rfl rfl (by kernel_rfl) (by kernel_rfl) (by kernel_rfl) (fun _ _ _ h => h) rfl ?_ hHeld ?_
        rotate_left
        · (intro wq hSq; have hq0 := (hSq _).trans t1; have hq1 := (hSq _).trans u0'; go_simp <;> first | with_reducible rfl | rfl)
        simp only [Act.put, List.setIfInBounds_toArray, List.set_cons_zero, List.set_cons_succ]
        refine take_on (i := 37) (v := ?_) rfl rfl (by kernel_rfl) (by kernel_rfl) (by kernel_rfl) (fun _ _ _ h => h) rfl ?_ hHeld ?_
        rotate_left
        · (intro wq hSq; have hq0 := (hSq _).trans t1; have hq1 := (hSq _).trans u0'; go_simp <;> first | with_reducible rfl | rfl)
        simp only [Act.put, List.setIfInBounds_toArray, List.set_cons_zero, List.set_cons_succ]
        refine wpAnyH_done (by kernel_rfl) ?_ _
        go_wp2_with fail
        go_roundw
        case rel => exact ⟨m + 1, q + 1, by omega, by go_num, by rw [HWR.out]; rfl⟩
        case measure => simp [intOf]; omega
    · have hdN : decide ((m : Int) < (N2 : Int)) = false := by simp; omega
      clear t0 t1 t2 s0 s1 s2 hb7r
      have HW9 := HWR
      obtain ⟨q9, hq9⟩ : ∃ q9, q9 = q := ⟨_, rfl⟩
      rw [← hq9] at HW9
      clear hq9 HWR
      go_wp2_with fail
      go_loopw [12] (fun i wr => ∃ m q : Nat, m ≤ K3 ∧ i = .int .i64 (m : Int) ∧ wr = wc.drewN q) (fun i _ => K3 - (intOf i).toNat)
      case atStart => exact ⟨0, q9, by omega, rfl, HW9.out⟩
      case round =>
        obtain ⟨m, q, hm, rfl, hwr⟩ := hrel
        have hbr : Below wc.heap.size wc wr := by rw [hwr]; exact below_drewN (Below.refl _ _) _
        have hb7r := HB7c.out.trans (hbr.mono HB7c.out.size)
        have HWR := hide_it' hwr
        clear hwr hbr
        obtain ⟨t0, t1, t2⟩ := cells3 ((hb7r.block w.heap.size (by omega)).trans HQ7.out)
        obtain ⟨s0, s1, s2⟩ := cells3 ((hb7r.block w1.heap.size (by omega)).trans HWA7.out)
        by_cases hlm : m < K3
        · have hi1 : (m : Int) < (K3 : Int) := by omega
          have hdN : decide ((m : Int) < (K3 : Int)) = true := by simp; omega
          obtain ⟨bC, oC, haC, _, hcC'⟩ := (HRC.out.below hb7r).here hlm
          have u0 := hcC' m hlm
          clear hcC'
          subst haC
          by_cases hz : m < k
          · have hi2 : (m : Int) < (k : Int) := by omega
            have hd1 : decide ((m : Int) < (k : Int)) = true := by simp; omega
            have hd2 : decide (k ≤ m) = false := by simp; omega
            obtain ⟨bc, oc, hac, _, hcc'⟩ := (HRz7.out.below hb7r).here hz
            have y0 := hcc' m hz
            simp only [sess3, if_pos hz] at u0
            clear hcc'
            subst hac
            generalize S m = x0 at *
            clear hb7r
            go_wp2_with fail
            refine wp_region_held_drew (S := (fun w' => ∀ p : Addr, w'.cell? p = wr.cell? p)) (by kernel_rfl) ?_ (fun hHeld => ?_)
            · exact fun p => rfl
            refine take_on (i := 0) (v := ?_) rfl rfl (by kernel_rfl) (by kernel_rfl) (by kernel_rfl) (fun _ _ _ h => h) rfl ?_ hHeld ?_
            rotate_left
            · (intro wq hSq; have hq0 := (hSq _).trans t2; have hq1 := (hSq _).trans s2; have hq2 := (hSq _).trans u0; have hq3 := (hSq _).trans y0; go_simp <;> first | with_reducible rfl | rfl)
            simp only [Act.put, List.setIfInBounds_toArray, List.set_cons_zero, List.set_cons_succ]
            refine take_on (i := 1) (v := ?_) rfl rfl (by kernel_rfl) (by kernel_rfl) (by kernel_rfl) (fun _ _ _ h => h) rfl ?_ hHeld ?_
            rotate_left
            · (intro wq hSq; have hq0 := (hSq _).trans t2; have hq1 := (hSq _).trans s2; have hq2 := (hSq _).trans u0; have hq3 := (hSq _).trans y0; go_simp <;> first | with_reducible rfl | rfl)
            simp only [Act.put, List.setIfInBounds_toArray, List.set_cons_zero, List.set_cons_succ]
            refine take_on (i := 2) (v := ?_) rfl rfl (by kernel_rfl) (by kernel_rfl) (by kernel_rfl) (fun _ _ _ h => h) rfl ?_ hHeld ?_
            rotate_left
            · (intro wq hSq; have hq0 := (hSq _).trans t2; have hq1 := (hSq _).trans s2; have hq2 := (hSq _).trans u0; have hq3 := (hSq _).trans y0; go_simp <;> first | with_reducible rfl | rfl)
            simp only [Act.put, List.setIfInBounds_toArray, List.set_cons_zero, List.set_cons_succ]
            refine take_on (i := 3) (v := ?_) rfl rfl (by kernel_rfl) (by kernel_rfl) (by kernel_rfl) (fun _ _ _ h => h) rfl ?_ hHeld ?_
            rotate_left
            · (intro wq hSq; have hq0 := (hSq _).trans t2; have hq1 := (hSq _).trans s2; have hq2 := (hSq _).trans u0; have hq3 := (hSq _).trans y0; go_simp <;> first | with_reducible rfl | rfl)
            simp only [Act.put, List.setIfInBounds_toArray, List.set_cons_zero, List.set_cons_succ]
            refine take_on (i := 4) (v := ?_) rfl rfl (by kernel_rfl) (by kernel_rfl) (by kernel_rfl) (fun _ _ _ h => h) rfl ?_ hHeld ?_
            rotate_left
            · (intro wq hSq; have hq0 := (hSq _).trans t2; have hq1 := (hSq _).trans s2; have hq2 := (hSq _).trans u0; have hq3 := (hSq _).trans y0; go_simp <;> first | with_reducible rfl | rfl)
            simp only [Act.put, List.setIfInBounds_toArray, List.set_cons_zero, List.set_cons_succ]
            refine take_on (i := 5) (v := ?_) rfl rfl (by kernel_rfl) (by kernel_rfl) (by kernel_rfl) (fun _ _ _ h => h) rfl ?_ hHeld ?_
            rotate_left
            · (intro wq hSq; have hq0 := (hSq _).trans t2; have hq1 := (hSq _).trans s2; have hq2 := (hSq _).trans u0; have hq3 := (hSq _).trans y0; go_simp <;> first | with_reducible rfl | rfl)
            simp only [Act.put, List.setIfInBounds_toArray, List.set_cons_zero, List.set_cons_succ]
            refine take_on (i := 6) (v := ?_) rfl rfl (by kernel_rfl) (by kernel_rfl) (by kernel_rfl) (fun _ _ _ h => h) rfl ?_ hHeld ?_
            rotate_left
            · (intro wq hSq; have hq0 := (hSq _).trans t2; have hq1 := (hSq _).trans s2; have hq2 := (hSq _).trans u0; have hq3 := (hSq _).trans y0; go_simp <;> first | with_reducible rfl | rfl)
            simp only [Act.put, List.setIfInBounds_toArray, List.set_cons_zero, List.set_cons_succ]
            refine take_on (i := 7) (v := ?_) rfl rfl (by kernel_rfl) (by kernel_rfl) (by kernel_rfl) (fun _ _ _ h => h) rfl ?_ hHeld ?_
            rotate_left
            · (intro wq hSq; have hq0 := (hSq _).trans t2; have hq1 := (hSq _).trans s2; have hq2 := (hSq _).trans u0; have hq3 := (hSq _).trans y0; go_simp <;> first | with_reducible rfl | rfl)
            simp only [Act.put, List.setIfInBounds_toArray, List.set_cons_zero, List.set_cons_succ]
            refine take_on (i := 8) (v := ?_) rfl rfl (by kernel_rfl) (by kernel_rfl) (by kernel_rfl) (fun _ _ _ h => h) rfl ?_ hHeld ?_
            rotate_left
            · (intro wq hSq; have hq0 := (hSq _).trans t2; have hq1 := (hSq _).trans s2; have hq2 := (hSq _).trans u0; have hq3 := (hSq _).trans y0; go_simp <;> first | with_reducible rfl | rfl)
            simp only [Act.put, List.setIfInBounds_toArray, List.set_cons_zero, List.set_cons_succ]
            refine take_on (i := 9) (v := ?_) rfl rfl (by kernel_rfl) (by kernel_rfl) (by kernel_rfl) (fun _ _ _ h => h) rfl ?_ hHeld ?_
            rotate_left
            · (intro wq hSq; have hq0 := (hSq _).trans t2; have hq1 := (hSq _).trans s2; have hq2 := (hSq _).trans u0; have hq3 := (hSq _).trans y0; go_simp <;> first | with_reducible rfl | rfl)
            simp only [Act.put, List.setIfInBounds_toArray, List.set_cons_zero, List.set_cons_succ]
            refine take_on (i := 10) (v := ?_) rfl rfl (by kernel_rfl) (by kernel_rfl) (by kernel_rfl) (fun _ _ _ h => h) rfl ?_ hHeld ?_
            rotate_left
            · (intro wq hSq; have hq0 := (hSq _).trans t2; have hq1 := (hSq _).trans s2; have hq2 := (hSq _).trans u0; have hq3 := (hSq _).trans y0; go_simp <;> first | with_reducible rfl | rfl)
            simp only [Act.put, List.setIfInBounds_toArray, List.set_cons_zero, List.set_cons_succ]
            refine take_on (i := 11) (v := ?_) rfl rfl (by kernel_rfl) (by kernel_rfl) (by kernel_rfl) (fun _ _ _ h => h) rfl ?_ hHeld ?_
            rotate_left
            · (intro wq hSq; have hq0 := (hSq _).trans t2; have hq1 := (hSq _).trans s2; have hq2 := (hSq _).trans u0; have hq3 := (hSq _).trans y0; go_simp <;> first | with_reducible rfl | rfl)
            simp only [Act.put, List.setIfInBounds_toArray, List.set_cons_zero, List.set_cons_succ]
            refine take_on (i := 12) (v := ?_) rfl rfl (by kernel_rfl) (by kernel_rfl) (by kernel_rfl) (fun _ _ _ h => h) rfl ?_ hHeld ?_
            rotate_left
            · (intro wq hSq; have hq0 := (hSq _).trans t2; have hq1 := (hSq _).trans s2; have hq2 := (hSq _).trans u0; have hq3 := (hSq _).trans y0; go_simp <;> first | with_reducible rfl | rfl)
            simp only [Act.put, List.setIfInBounds_toArray, List.set_cons_zero, List.set_cons_succ]
            refine take_on (i := 13) (v := ?_) rfl rfl (by kernel_rfl) (by kernel_rfl) (by kernel_rfl) (fun _ _ _ h => h) rfl ?_ hHeld ?_
            rotate_left
            · (intro wq hSq; have hq0 := (hSq _).trans t2; have hq1 := (hSq _).trans s2; have hq2 := (hSq _).trans u0; have hq3 := (hSq _).trans y0; go_simp <;> first | with_reducible rfl | rfl)
            simp only [Act.put, List.setIfInBounds_toArray, List.set_cons_zero, List.set_cons_succ]
            refine take_on (i := 14) (v := ?_) rfl rfl (by kernel_rfl) (by kernel_rfl) (by kernel_rfl) (fun _ _ _ h => h) rfl ?_ hHeld ?_
            rotate_left
            · (intro wq hSq; have hq0 := (hSq _).trans t2; have hq1 := (hSq _).trans s2; have hq2 := (hSq _).trans u0; have hq3 := (hSq _).trans y0; go_simp <;> first | with_reducible rfl | rfl)
            simp only [Act.put, List.setIfInBounds_toArray, List.set_cons_zero, List.set_cons_succ]
            refine take_on (i := 15) (v := ?_) rfl rfl (by kernel_rfl) (by kernel_rfl) (by kernel_rfl) (fun _ _ _ h => h) rfl ?_ hHeld ?_
            rotate_left
            · (intro wq hSq; have hq0 := (hSq _).trans t2; have hq1 := (hSq _).trans s2; have hq2 := (hSq _).trans u0; have hq3 := (hSq _).trans y0; go_simp <;> first | with_reducible rfl | rfl)
            simp only [Act.put, List.setIfInBounds_toArray, List.set_cons_zero, List.set_cons_succ]
            refine take_on (i := 16) (v := ?_) rfl rfl (by kernel_rfl) (by kernel_rfl) (by kernel_rfl) (fun _ _ _ h => h) rfl ?_ hHeld ?_
            rotate_left
            · (intro wq hSq; have hq0 := (hSq _).trans t2; have hq1 := (hSq _).trans s2; have hq2 := (hSq _).trans u0; have hq3 := (hSq _).trans y0; go_simp <;> first | with_reducible rfl | rfl)
            simp only [Act.put, List.setIfInBounds_toArray, List.set_cons_zero, List.set_cons_succ]
            refine take_on (i := 17) (v := ?_) rfl rfl (by kernel_rfl) (by kernel_rfl) (by kernel_rfl) (fun _ _ _ h => h) rfl ?_ hHeld ?_
            rotate_left
            · (intro wq hSq; have hq0 := (hSq _).trans t2; have hq1 := (hSq _).trans s2; have hq2 := (hSq _).trans u0; have hq3 := (hSq _).trans y0; go_simp <;> first | with_reducible rfl | rfl)
            simp only [Act.put, List.setIfInBounds_toArray, List.set_cons_zero, List.set_cons_succ]
            refine take_on (i := 18) (v := ?_) rfl rfl (by kernel_rfl) (by kernel_rfl) (by kernel_rfl) (fun _ _ _ h => h) rfl ?_ hHeld ?_
            rotate_left
            · (intro wq hSq; have hq0 := (hSq _).trans t2; have hq1 := (hSq _).trans s2; have hq2 := (hSq _).trans u0; have hq3 := (hSq _).trans y0; go_simp <;> first | with_reducible rfl | rfl)
            simp only [Act.put, List.setIfInBounds_toArray, List.set_cons_zero, List.set_cons_succ]
            refine take_on (i := 19) (v := ?_) rfl rfl (by kernel_rfl) (by kernel_rfl) (by kernel_rfl) (fun _ _ _ h => h) rfl ?_ hHeld ?_
            rotate_left
            · (intro wq hSq; have hq0 := (hSq _).trans t2; have hq1 := (hSq _).trans s2; have hq2 := (hSq _).trans u0; have hq3 := (hSq _).trans y0; go_simp <;> first | with_reducible rfl | rfl)
            simp only [Act.put, List.setIfInBounds_toArray, List.set_cons_zero, List.set_cons_succ]
            refine take_on (i := 20) (v := ?_) rfl rfl (by kernel_rfl) (by kernel_rfl) (by kernel_rfl) (fun _ _ _ h => h) rfl ?_ hHeld ?_
            rotate_left
            · (intro wq hSq; have hq0 := (hSq _).trans t2; have hq1 := (hSq _).trans s2; have hq2 := (hSq _).trans u0; have hq3 := (hSq _).trans y0; go_simp <;> first | with_reducible rfl | rfl)
            simp only [Act.put, List.setIfInBounds_toArray, List.set_cons_zero, List.set_cons_succ]
            refine take_on (i := 21) (v := ?_) rfl rfl (by kernel_rfl) (by kernel_rfl) (by kernel_rfl) (fun _ _ _ h => h) rfl ?_ hHeld ?_
            rotate_left
            · (intro wq hSq; have hq0 := (hSq _).trans t2; have hq1 := (hSq _).trans s2; have hq2 := (hSq _).trans u0; have hq3 := (hSq _).trans y0; go_simp <;> first | with_reducible rfl | rfl)
            simp only [Act.put, List.setIfInBounds_toArray, List.set_cons_zero, List.set_cons_succ]
            refine take_on (i := 22) (v := ?_) rfl rfl (by kernel_rfl) (by kernel_rfl) (by kernel_rfl) (fun _ _ _ h => h) rfl ?_ hHeld ?_
            rotate_left
            · (intro wq hSq; have hq0 := (hSq _).trans t2; have hq1 := (hSq _).trans s2; have hq2 := (hSq _).trans u0; have hq3 := (hSq _).trans y0; go_simp <;> first | with_reducible rfl | rfl)
            simp only [Act.put, List.setIfInBounds_toArray, List.set_cons_zero, List.set_cons_succ]
            refine take_on (i := 23) (v := ?_) rfl rfl (by kernel_rfl) (by kernel_rfl) (by kernel_rfl) (fun _ _ _ h => h) rfl ?_ hHeld ?_
            rotate_left
            · (intro wq hSq; have hq0 := (hSq _).trans t2; have hq1 := (hSq _).trans s2; have hq2 := (hSq _).trans u0; have hq3 := (hSq _).trans y0; go_simp <;> first | with_reducible rfl | rfl)
            simp only [Act.put, List.setIfInBounds_toArray, List.set_cons_zero, List.set_cons_succ]
            refine take_off (i := 24) rfl rfl (by kernel_rfl) (by kernel_rfl) (by kernel_rfl) (fun _ _ _ h => h) rfl hHeld ?_
            simp only [Act.put, List.setIfInBounds_toArray, List.set_cons_zero, List.set_cons_succ]
            refine take_off (i := 25) rfl rfl (by kernel_rfl) (by kernel_rfl) (by kernel_rfl) (fun _ _ _ h => h) rfl hHeld ?_
            simp only [Act.put, List.setIfInBounds_toArray, List.set_cons_zero, List.set_cons_succ]
            refine take_off (i := 26) rfl rfl (by kernel_rfl) (by kernel_rfl) (by kernel_rfl) (fun _ _ _ h => h) rfl hHeld ?_
            simp only [Act.put, List.setIfInBounds_toArray, List.set_cons_zero, List.set_cons_succ]
            refine take_off (i := 27) rfl rfl (by kernel_rfl) (by kernel_rfl) (by kernel_rfl) (fun _ _ _ h => h) rfl hHeld ?_
            simp only [Act.put, List.setIfInBounds_toArray, List.set_cons_zero, List.set_cons_succ]
            refine take_off (i := 28) rfl rfl (by kernel_rfl) (by kernel_rfl) (by kernel_rfl) (fun _ _ _ h => h) rfl hHeld ?_
            simp only [Act.put, List.setIfInBounds_toArray, List.set_cons_zero, List.set_cons_succ]
            refine take_off (i := 29) rfl rfl (by kernel_rfl) (by kernel_rfl) (by kernel_rfl) (fun _ _ _ h => h) rfl hHeld ?_
            simp only [Act.put, List.setIfInBounds_toArray, List.set_cons_zero, List.set_cons_succ]
            refine take_off (i := 30) rfl rfl (by kernel_rfl) (by kernel_rfl) (by kernel_rfl) (fun _ _ _ h => h) rfl hHeld ?_
            simp only [Act.put, List.setIfInBounds_toArray, List.set_cons_zero, List.set_cons_succ]
            refine take_off (i := 31) rfl rfl (by kernel_rfl) (by kernel_rfl) (by kernel_rfl) (fun _ _ _ h => h) rfl hHeld ?_
            simp only [Act.put, List.setIfInBounds_toArray, List.set_cons_zero, List.set_cons_succ]
            refine take_off (i := 32) rfl rfl (by kernel_rfl) (by kernel_rfl) (by kernel_rfl) (fun _ _ _ h => h) rfl hHeld ?_
            simp only [Act.put, List.setIfInBounds_toArray, List.set_cons_zero, List.set_cons_succ]
            refine take_off (i := 33) rfl rfl (by kernel_rfl) (by kernel_rfl) (by kernel_rfl) (fun _ _ _ h => h) rfl hHeld ?_
            simp only [Act.put, List.setIfInBounds_toArray, List.set_cons_zero, List.set_cons_succ]
            refine take_off (i := 34) rfl rfl (by kernel_rfl) (by kernel_rfl) (by kernel_rfl) (fun _ _ _ h => h) rfl hHeld ?_
            simp only [Act.put, List.setIfInBounds_toArray, List.set_cons_zero, List.set_cons_succ]
            refine take_on (i := 35) (v := ?_) rfl rfl (by kernel_rfl) (by kernel_rfl) (by kernel_rfl) (fun _ _ _ h => h) rfl ?_ hHeld ?_
            rotate_left
            · (intro wq hSq; have hq0 := (hSq _).trans t2; have hq1 := (hSq _).trans s2; have hq2 := (hSq _).trans u0; have hq3 := (hSq _).trans y0; go_simp <;> first | with_reducible rfl | rfl)
            simp only [Act.put, List.setIfInBounds_toArray, List.set_cons_zero, List.set_cons_succ]
            refine take_on (i := 36) (v := ?_) rfl rfl (by kernel_rfl) (by kernel_rfl) (by kernel_rfl) (fun _ _ _ h => h) rfl ?_ hHeld ?_
            rotate_left
            · (intro wq hSq; have hq0 := (hSq _).trans t2; have hq1 := (hSq _).trans s2; have hq2 := (hSq _).trans u0; have hq3 := (hSq _).trans y0; go_simp <;> first | with_reducible rfl | rfl)
            simp only [Act.put, List.setIfInBounds_toArray, List.set_cons_zero, List.set_cons_succ]
            refine wpAnyH_done (by kernel_rfl) ?_ _
            go_wp2_with fail
            go_roundw
            case rel => exact ⟨m + 1, q + 1, by omega, by go_num, by rw [HWR.out]; rfl⟩
            case measure => simp [intOf]; omega
          · have hd1 : decide ((m : Int) < (k : Int)) = false := by simp; omega
            have hd2 : decide (k ≤ m) = true := by simp; omega
            have hz' : ¬ m < k := hz
            simp only [sess3, if_neg hz'] at u0
            have hw1 : IntKind.i64.wrap (91 + (m : Int)) = 91 + (m : Int) := i64_in (by omega) (by omega)
            have hw2 : IntKind.i64.wrap (91 + (m : Int) - (k : Int)) = 91 + (m : Int) - (k : Int) := i64_in (by omega) (by omega)
            clear hz'
            clear hb7r
            go_wp2_with fail
            refine wp_region_held_drew (S := (fun w' => ∀ p : Addr, w'.cell? p = wr.cell? p)) (by kernel_rfl) ?_ (fun hHeld => ?_)
            · exact fun p => rfl
            refine take_on (i := 0) (v := ?_) rfl rfl (by kernel_rfl) (by kernel_rfl) (by kernel_rfl) (fun _ _ _ h => h) rfl ?_ hHeld ?_
            rotate_left
            · (intro wq hSq; have hq0 := (hSq _).trans t2; have hq1 := (hSq _).trans u0; go_simp <;> first | with_reducible rfl | rfl)
            simp only [Act.put, List.setIfInBounds_toArray, List.set_cons_zero, List.set_cons_succ]
            refine take_on (i := 1) (v := ?_) rfl rfl (by kernel_rfl) (by kernel_rfl) (by kernel_rfl) (fun _ _ _ h => h) rfl ?_ hHeld ?_
            rotate_left
            · (intro wq hSq; have hq0 := (hSq _).trans t2; have hq1 := (hSq _).trans u0; go_simp <;> first | with_reducible rfl | rfl)
            simp only [Act.put, List.setIfInBounds_toArray, List.set_cons_zero, List.set_cons_succ]
            refine take_on (i := 2) (v := ?_) rfl rfl (by kernel_rfl) (by kernel_rfl) (by kernel_rfl) (fun _ _ _ h => h) rfl ?_ hHeld ?_
            rotate_left
            · (intro wq hSq; have hq0 := (hSq _).trans t2; have hq1 := (hSq _).trans u0; go_simp <;> first | with_reducible rfl | rfl)
            simp only [Act.put, List.setIfInBounds_toArray, List.set_cons_zero, List.set_cons_succ]
            refine take_on (i := 3) (v := ?_) rfl rfl (by kernel_rfl) (by kernel_rfl) (by kernel_rfl) (fun _ _ _ h => h) rfl ?_ hHeld ?_
            rotate_left
            · (intro wq hSq; have hq0 := (hSq _).trans t2; have hq1 := (hSq _).trans u0; go_simp <;> first | with_reducible rfl | rfl)
            simp only [Act.put, List.setIfInBounds_toArray, List.set_cons_zero, List.set_cons_succ]
            refine take_on (i := 4) (v := ?_) rfl rfl (by kernel_rfl) (by kernel_rfl) (by kernel_rfl) (fun _ _ _ h => h) rfl ?_ hHeld ?_
            rotate_left
            · (intro wq hSq; have hq0 := (hSq _).trans t2; have hq1 := (hSq _).trans u0; go_simp <;> first | with_reducible rfl | rfl)
            simp only [Act.put, List.setIfInBounds_toArray, List.set_cons_zero, List.set_cons_succ]
            refine take_on (i := 5) (v := ?_) rfl rfl (by kernel_rfl) (by kernel_rfl) (by kernel_rfl) (fun _ _ _ h => h) rfl ?_ hHeld ?_
            rotate_left
            · (intro wq hSq; have hq0 := (hSq _).trans t2; have hq1 := (hSq _).trans u0; go_simp <;> first | with_reducible rfl | rfl)
            simp only [Act.put, List.setIfInBounds_toArray, List.set_cons_zero, List.set_cons_succ]
            refine take_off (i := 6) rfl rfl (by kernel_rfl) (by kernel_rfl) (by kernel_rfl) (fun _ _ _ h => h) rfl hHeld ?_
            simp only [Act.put, List.setIfInBounds_toArray, List.set_cons_zero, List.set_cons_succ]
            refine take_off (i := 7) rfl rfl (by kernel_rfl) (by kernel_rfl) (by kernel_rfl) (fun _ _ _ h => h) rfl hHeld ?_
            simp only [Act.put, List.setIfInBounds_toArray, List.set_cons_zero, List.set_cons_succ]
            refine take_off (i := 8) rfl rfl (by kernel_rfl) (by kernel_rfl) (by kernel_rfl) (fun _ _ _ h => h) rfl hHeld ?_
            simp only [Act.put, List.setIfInBounds_toArray, List.set_cons_zero, List.set_cons_succ]
            refine take_off (i := 9) rfl rfl (by kernel_rfl) (by kernel_rfl) (by kernel_rfl) (fun _ _ _ h => h) rfl hHeld ?_
            simp only [Act.put, List.setIfInBounds_toArray, List.set_cons_zero, List.set_cons_succ]
            refine take_off (i := 10) rfl rfl (by kernel_rfl) (by kernel_rfl) (by kernel_rfl) (fun _ _ _ h => h) rfl hHeld ?_
            simp only [Act.put, List.setIfInBounds_toArray, List.set_cons_zero, List.set_cons_succ]
            refine take_off (i := 11) rfl rfl (by kernel_rfl) (by kernel_rfl) (by kernel_rfl) (fun _ _ _ h => h) rfl hHeld ?_
            simp only [Act.put, List.setIfInBounds_toArray, List.set_cons_zero, List.set_cons_succ]
            refine take_off (i := 12) rfl rfl (by kernel_rfl) (by kernel_rfl) (by kernel_rfl) (fun _ _ _ h => h) rfl hHeld ?_
            simp only [Act.put, List.setIfInBounds_toArray, List.set_cons_zero, List.set_cons_succ]
            refine take_off (i := 13) rfl rfl (by kernel_rfl) (by kernel_rfl) (by kernel_rfl) (fun _ _ _ h => h) rfl hHeld ?_
            simp only [Act.put, List.setIfInBounds_toArray, List.set_cons_zero, List.set_cons_succ]
            refine take_off (i := 14) rfl rfl (by kernel_rfl) (by kernel_rfl) (by kernel_rfl) (fun _ _ _ h => h) rfl hHeld ?_
            simp only [Act.put, List.setIfInBounds_toArray, List.set_cons_zero, List.set_cons_succ]
            refine take_off (i := 15) rfl rfl (by kernel_rfl) (by kernel_rfl) (by kernel_rfl) (fun _ _ _ h => h) rfl hHeld ?_
            simp only [Act.put, List.setIfInBounds_toArray, List.set_cons_zero, List.set_cons_succ]
            refine take_on (i := 16) (v := ?_) rfl rfl (by kernel_rfl) (by kernel_rfl) (by kernel_rfl) (fun _ _ _ h => h) rfl ?_ hHeld ?_
            rotate_left
            · (intro wq hSq; have hq0 := (hSq _).trans t2; have hq1 := (hSq _).trans u0; go_simp <;> first | with_reducible rfl | rfl)
            simp only [Act.put, List.setIfInBounds_toArray, List.set_cons_zero, List.set_cons_succ]
            refine take_on (i := 17) (v := ?_) rfl rfl (by kernel_rfl) (by kernel_rfl) (by kernel_rfl) (fun _ _ _ h => h) rfl ?_ hHeld ?_
            rotate_left
            · (intro wq hSq; have hq0 := (hSq _).trans t2; have hq1 := (hSq _).trans u0; go_simp <;> first | with_reducible rfl | rfl)
            simp only [Act.put, List.setIfInBounds_toArray, List.set_cons_zero, List.set_cons_succ]
            refine take_on (i := 18) (v := ?_) rfl rfl (by kernel_rfl) (by kernel_rfl) (by kernel_rfl) (fun _ _ _ h => h) rfl ?_ hHeld ?_
            rotate_left
            · (intro wq hSq; have hq0 := (hSq _).trans t2; have hq1 := (hSq _).trans u0; go_simp <;> first | with_reducible rfl | rfl)
            simp only [Act.put, List.setIfInBounds_toArray, List.set_cons_zero, List.set_cons_succ]
            refine take_on (i := 19) (v := ?_) rfl rfl (by kernel_rfl) (by kernel_rfl) (by kernel_rfl) (fun _ _ _ h => h) rfl ?_ hHeld ?_
            rotate_left
            · (intro wq hSq; have hq0 := (hSq _).trans t2; have hq1 := (hSq _).trans u0; go_simp <;> first | with_reducible rfl | rfl)
            simp only [Act.put, List.setIfInBounds_toArray, List.set_cons_zero, List.set_cons_succ]
            refine take_on (i := 20) (v := ?_) rfl rfl (by kernel_rfl) (by kernel_rfl) (by kernel_rfl) (fun _ _ _ h => h) rfl ?_ hHeld ?_
            rotate_left
            · (intro wq hSq; have hq0 := (hSq _).trans t2; have hq1 := (hSq _).trans u0; go_simp <;> first | with_reducible rfl | rfl)
            simp only [Act.put, List.setIfInBounds_toArray, List.set_cons_zero, List.set_cons_succ]
            refine take_on (i := 21) (v := ?_) rfl rfl (by kernel_rfl) (by kernel_rfl) (by kernel_rfl) (fun _ _ _ h => h) rfl ?_ hHeld ?_
            rotate_left
            · (intro wq hSq; have hq0 := (hSq _).trans t2; have hq1 := (hSq _).trans u0; go_simp <;> first | with_reducible rfl | rfl)
            simp only [Act.put, List.setIfInBounds_toArray, List.set_cons_zero, List.set_cons_succ]
            refine take_on (i := 22) (v := ?_) rfl rfl (by kernel_rfl) (by kernel_rfl) (by kernel_rfl) (fun _ _ _ h => h) rfl ?_ hHeld ?_
            rotate_left
            · (intro wq hSq; have hq0 := (hSq _).trans t2; have hq1 := (hSq _).trans u0; go_simp <;> first | with_reducible rfl | rfl)
            simp only [Act.put, List.setIfInBounds_toArray, List.set_cons_zero, List.set_cons_succ]
            refine take_on (i := 23) (v := ?_) rfl rfl (by kernel_rfl) (by kernel_rfl) (by kernel_rfl) (fun _ _ _ h => h) rfl ?_ hHeld ?_
            rotate_left
            · (intro wq hSq; have hq0 := (hSq _).trans t2; have hq1 := (hSq _).trans u0; go_simp <;> first | with_reducible rfl | rfl)
            simp only [Act.put, List.setIfInBounds_toArray, List.set_cons_zero, List.set_cons_succ]
            refine take_on (i := 24) (v := ?_) rfl rfl (by kernel_rfl) (by kernel_rfl) (by kernel_rfl) (fun _ _ _ h => h) rfl ?_ hHeld ?_
            rotate_left
            · (intro wq hSq; have hq0 := (hSq _).trans t2; have hq1 := (hSq _).trans u0; go_simp <;> first | with_reducible rfl | rfl)
            simp only [Act.put, List.setIfInBounds_toArray, List.set_cons_zero, List.set_cons_succ]
            refine take_on (i := 25) (v := ?_) rfl rfl (by kernel_rfl) (by kernel_rfl) (by kernel_rfl) (fun _ _ _ h => h) rfl ?_ hHeld ?_
            rotate_left
            · (intro wq hSq; have hq0 := (hSq _).trans t2; have hq1 := (hSq _).trans u0; go_simp <;> first | with_reducible rfl | rfl)
            simp only [Act.put, List.setIfInBounds_toArray, List.set_cons_zero, List.set_cons_succ]
            refine take_on (i := 26) (v := ?_) rfl rfl (by kernel_rfl) (by kernel_rfl) (by kernel_rfl) (fun _ _ _ h => h) rfl ?_ hHeld ?_
            rotate_left
            · (intro wq hSq; have hq0 := (hSq _).trans t2; have hq1 := (hSq _).trans u0; go_simp <;> first | with_reducible rfl | rfl)
            simp only [Act.put, List.setIfInBounds_toArray, List.set_cons_zero, List.set_cons_succ]
            refine take_on (i := 27) (v := ?_) rfl rfl (by kernel_rfl) (by kernel_rfl) (by kernel_rfl) (fun _ _ _ h => h) rfl ?_ hHeld ?_
            rotate_left
            · (intro wq hSq; have hq0 := (hSq _).trans t2; have hq1 := (hSq _).trans u0; go_simp <;> first | with_reducible rfl | rfl)
            simp only [Act.put, List.setIfInBounds_toArray, List.set_cons_zero, List.set_cons_succ]
            refine take_on (i := 28) (v := ?_) rfl rfl (by kernel_rfl) (by kernel_rfl) (by kernel_rfl) (fun _ _ _ h => h) rfl ?_ hHeld ?_
            rotate_left
            · (intro wq hSq; have hq0 := (hSq _).trans t2; have hq1 := (hSq _).trans u0; go_simp <;> first | with_reducible rfl | rfl)
            simp only [Act.put, List.setIfInBounds_toArray, List.set_cons_zero, List.set_cons_succ]
            refine take_on (i := 29) (v := ?_) rfl rfl (by kernel_rfl) (by kernel_rfl) (by kernel_rfl) (fun _ _ _ h => h) rfl ?_ hHeld ?_
            rotate_left
            · (intro wq hSq; have hq0 := (hSq _).trans t2; have hq1 := (hSq _).trans u0; go_simp <;> first | with_reducible rfl | rfl)
            simp only [Act.put, List.setIfInBounds_toArray, List.set_cons_zero, List.set_cons_succ]
            refine take_on (i := 30) (v := ?_) rfl rfl (by kernel_rfl) (by kernel_rfl) (by kernel_rfl) (fun _ _ _ h => h) rfl ?_ hHeld ?_
            rotate_left
            · (intro wq hSq; have hq0 := (hSq _).trans t2; have hq1 := (hSq _).trans u0; go_simp <;> first | with_reducible rfl | rfl)
            simp only [Act.put, List.setIfInBounds_toArray, List.set_cons_zero, List.set_cons_succ]
            refine take_on (i := 31) (v := ?_) rfl rfl (by kernel_rfl) (by kernel_rfl) (by kernel_rfl) (fun _ _ _ h => h) rfl ?_ hHeld ?_
            rotate_left
            · (intro wq hSq; have hq0 := (hSq _).trans t2; have hq1 := (hSq _).trans u0; go_simp <;> first | with_reducible rfl | rfl)
            simp only [Act.put, List.setIfInBounds_toArray, List.set_cons_zero, List.set_cons_succ]
            refine take_on (i := 32) (v := ?_) rfl rfl (by kernel_rfl) (by kernel_rfl) (by kernel_rfl) (fun _ _ _ h => h) rfl ?_ hHeld ?_
            rotate_left
            · (intro wq hSq; have hq0 := (hSq _).trans t2; have hq1 := (hSq _).trans u0; go_simp <;> first | with_reducible rfl | rfl)
            simp only [Act.put, List.setIfInBounds_toArray, List.set_cons_zero, List.set_cons_succ]
            refine take_on (i := 33) (v := ?_) rfl rfl (by kernel_rfl) (by kernel_rfl) (by kernel_rfl) (fun _ _ _ h => h) rfl ?_ hHeld ?_
            rotate_left
            · (intro wq hSq; have hq0 := (hSq _).trans t2; have hq1 := (hSq _).trans u0; go_simp <;> first | with_reducible rfl | rfl)
            simp only [Act.put, List.setIfInBounds_toArray, List.set_cons_zero, List.set_cons_succ]
            refine take_on (i := 34) (v := ?_) rfl rfl (by kernel_rfl) (by kernel_rfl) (by kernel_rfl) (fun _ _ _ h => h) rfl ?_ hHeld ?_
            rotate_left
            · (intro wq hSq; have hq0 := (hSq _).trans t2; have hq1 := (hSq _).trans u0; go_simp <;> first | with_reducible rfl | rfl)
            simp only [Act.put, List.setIfInBounds_toArray, List.set_cons_zero, List.set_cons_succ]
            refine take_on (i := 35) (v := ?_) rfl rfl (by kernel_rfl) (by kernel_rfl) (by kernel_rfl) (fun _ _ _ h => h) rfl ?_ hHeld ?_
            rotate_left
            · (intro wq hSq; have hq0 := (hSq _).trans t2; have hq1 := (hSq _).trans u0; go_simp <;> first | with_reducible rfl | rfl)
            simp only [Act.put, List.setIfInBounds_toArray, List.set_cons_zero, List.set_cons_succ]
            refine take_on (i := 36) (v := ?_) rfl rfl (by kernel_rfl) (by kernel_rfl) (by kernel_rfl) (fun _ _ _ h => h) rfl ?_ hHeld ?_
            rotate_left
            · (intro wq hSq; have hq0 := (hSq _).trans t2; have hq1 := (hSq _).trans u0; go_simp <;> first | with_reducible rfl | rfl)
            simp only [Act.put, List.setIfInBounds_toArray, List.set_cons_zero, List.set_cons_succ]
            refine wpAnyH_done (by kernel_rfl) ?_ _
            go_wp2_with fail
            go_roundw
            case rel => exact ⟨m + 1, q + 1, by omega, by go_num, by rw [HWR.out]; rfl⟩
            case measure => simp [intOf]; omega
        · have hdN : decide ((m : Int) < (K3 : Int)) = false := by simp; omega
          have hbw := HBW7.out.trans (hb7r.mono HBW7.out.size)
          clear t0 t1 t2 s0 s1 s2
          go_wp2_with fail
          refine (awake_any _).mono ?_
          rintro e wf ⟨rfl, hbf⟩
          go_wp2_with fail
          go_ret
          exact ⟨rfl, hbw.trans (hbf.mono hbw.size)⟩
end Go.Proofs.Ytoindigckfajlab.labelLeaves
