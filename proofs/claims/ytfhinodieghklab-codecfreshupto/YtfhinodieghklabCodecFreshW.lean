/- The law that what the Puts answer is new memory, walked. -/
import Derived.Test.YtfhinodieghklabOwn1
import Derived.Test.YtfhinodieghklabTh5
import Derived.Test.YtfhinodieghklabOpen8
namespace Go.Proofs.Ytfhinodieghklab.codecFresh
open Go.RowKit

theorem at0_rep {n x i : Nat} (h : i < n) : at0 (List.replicate n x) i = x := by
  unfold at0; rw [List.getD_eq_getElem?_getD, List.getElem?_replicate, if_pos h]; rfl
theorem mark_row {n m x y : Nat} : ∀ i, i < (List.replicate n x ++ List.replicate m y).length → at0 (List.replicate n x ++ List.replicate m y) i = if i < n then x else y := fun i hi => by
  simp at hi
  unfold at0
  rw [List.getD_eq_getElem?_getD]
  by_cases h : i < n
  · rw [if_pos h, List.getElem?_append_left (by simpa using h), List.getElem?_replicate, if_pos h]; rfl
  · rw [if_neg h, List.getElem?_append_right (by simp; omega), List.getElem?_replicate, if_pos (by simp; omega)]; rfl
theorem ob (a : Option Addr) (n c g : Nat) (h : a = some ⟨g, 0, none⟩) : (Value.slice a n c).ownBlock = some g := by rw [h]; rfl
theorem four_cells {w : World} {g : Nat} {cs : Array Value} {t : TypeId} (h : w.heap[g]? = some (.cells cs t (0, 0))) : w.cell? ⟨g, 0, none⟩ = cs[0]? ∧ w.cell? ⟨g, 1, none⟩ = cs[1]? ∧ w.cell? ⟨g, 2, none⟩ = cs[2]? ∧ w.cell? ⟨g, 3, none⟩ = cs[3]? :=
  ⟨cell_of_row _ _ _ _ _ _ h, cell_of_row _ _ _ _ _ _ h, cell_of_row _ _ _ _ _ _ h, cell_of_row _ _ _ _ _ _ h⟩
theorem own_take {w : World} {base g n cap : Nat} {G : List Nat} (h : OwnB w base (.slice (some ⟨g, 0, none⟩) n cap) G) (k : Nat) : RowB w (some ⟨g, 0, none⟩) (G.take k) := by
  obtain ⟨a1, c1, e1, hr, _⟩ := h.row
  cases e1
  exact ((RowLt.of_row hr).take k).row

set_option maxRecDepth 100000 in
set_option maxHeartbeats 4000000 in
theorem walk (a : Option Addr) (ca : Nat) (zs : List Nat) (t : Thing) (w : World) (ha : Came8 w a ca zs) (hal : zs.length ≤ 1048576) (ht : t.Ok) (hp : RowB w t.a t.p) :
    Calls Try.prog 7 #[.slice a zs.length ca, thingV t] w fun e w' => e = .returned (.bool true) ∧ Below w.heap.size w w' := by
  obtain ⟨tk, v, n, p, ta, tc⟩ := t
  have hok : ∀ (k : Int), (Thing.mk k v n p ta tc).Ok := fun k => ⟨ht.v64, ht.n1, ht.n2, ht.p8, ht.len, ht.none⟩
  have hpl : p.length ≤ 1048576 := ht.len
  have HA := hide_it ha
  have HP : Hid (RowB w ta p) := hp
  have hna := ha.none
  have hnp : ta = none → p.length = 0 ∧ tc = 0 := ht.none
  have HOK := hide_it hok
  obtain ⟨G, hG⟩ : ∃ G, G = zs ++ room := ⟨_, rfl⟩
  obtain ⟨H, hH⟩ : ∃ H, H = p ++ room := ⟨_, rfl⟩
  have hGl : G.length ≤ 1048656 := by rw [hG]; simp; omega
  have hHl : H.length ≤ 1048656 := by rw [hH]; simp; omega
  have hGp : 0 < G.length := by rw [hG]; simp
  have hHp : 0 < H.length := by rw [hH]; simp
  have hGz : zs.length ≤ G.length := by rw [hG]; simp
  have hHz : p.length ≤ H.length := by rw [hH]; simp
  have HG : Hid (G = zs ++ room) := hG
  have HH : Hid (H = p ++ room) := hH
  have HGt : Hid (G.take zs.length = zs) := by unfold Hid; rw [hG]; exact List.take_left' rfl
  have HHt : Hid (H.take p.length = p) := by unfold Hid; rw [hH]; exact List.take_left' rfl
  clear ha hp ht hok hG hH
  go_enter Try.func7, Try.ntmps7
  go_wp2_with fail
  go_loopw [17] (fun i wr => ∃ (k : Nat) (kk : Int), k ≤ 7 ∧ i = .int .i64 (k : Int) ∧ wr.heap[w.heap.size]? = some (.cells #[.int .i64 kk, .int .u64 (v : Int), .int .i64 n, .slice ta p.length tc] 26 (0, 0)) ∧ Below w.heap.size w wr) (fun i _ => 7 - (intOf i).toNat)
  case atStart => exact ⟨0, tk, by omega, rfl, heap_alloc_new w _, (Below.refl _ _).alloc (Nat.le_refl _) _⟩
  case round =>
    obtain ⟨k, kk, hk, rfl, hbox, hbw⟩ := hrel
    by_cases hlt : k < 7
    · have hd : decide ((k : Int) < 7) = true := by simp; omega
      have hbx0 := heap_setCell_same wr w.heap.size 0 _ _ (.int .i64 (k : Int)) hbox
      have hbw0 : Below w.heap.size w (wr.setCell ⟨w.heap.size, 0, none⟩ (.int .i64 (k : Int))) := hbw.setCell (Nat.le_refl _) _
      obtain ⟨c0, c1, c2, c3⟩ := four_cells hbox
      have z0 := frozen_of_row wr w.heap.size 0 _ _ hbox
      obtain ⟨W0, hW0⟩ : ∃ W0, W0 = wr.setCell ⟨w.heap.size, 0, none⟩ (.int .i64 (k : Int)) := ⟨_, rfl⟩
      rw [← hW0] at hbx0 hbw0
      have hbx1 : W0.heap[w.heap.size]? = some (.cells #[.int .i64 (k : Int), .int .u64 (v : Int), .int .i64 n, .slice ta p.length tc] 26 (0, 0)) := hbx0
      have HBX := hide_it hbx1
      have HBW := hide_it hbw0
      have HW0 := hide_it hW0
      have hlb : w.heap.size < W0.heap.size := (Array.getElem?_eq_some_iff.1 hbx1).1
      clear hbox hbw hbx0 hbx1 hbw0 hW0
      go_wp2_with fail
      rw [← HW0.out]
      clear c0 c1 c2 c3 z0 HW0
      obtain ⟨c0, c1, c2, c3⟩ := four_cells HBX.out
      have hrz := HA.out.row.below HBW.out
      have hrp := HP.out.below HBW.out
      have hx1 := fun W (h : RowB W a zs) => roomy_any a ca zs W h (by omega) hna
      have hx2 := fun W (h : RowB W ta p) => roomy_any ta tc p W h (by omega) hnp
      simp only [← HG.out] at hx1
      simp only [← HH.out] at hx2
      refine wp_region_held_drew (S := (fun w' => Below W0.heap.size W0 w')) (by kernel_rfl) ?_ (fun hHeld => ?_)
      · exact (Below.refl _ _).drew
      refine take_on (i := 0) (v := ?_) rfl rfl (by kernel_rfl) (by kernel_rfl) (by kernel_rfl) (fun _ _ _ h => h) rfl ?_ hHeld ?_
      rotate_left
      · (intro wq hSq; have hq3 := (hSq.cell (p := ⟨w.heap.size, 3, none⟩) hlb).trans c3; go_simp <;> first | with_reducible rfl | rfl)
      simp only [Act.put, List.setIfInBounds_toArray, List.set_cons_zero, List.set_cons_succ]
      refine take_on (i := 2) (v := ?_) rfl rfl (by kernel_rfl) (by kernel_rfl) (by kernel_rfl) (fun _ _ _ h => h) rfl ?_ hHeld ?_
      rotate_left
      · (intro wq hSq; have hq3 := (hSq.cell (p := ⟨w.heap.size, 3, none⟩) hlb).trans c3; go_simp <;> first | with_reducible rfl | rfl)
      simp only [Act.put, List.setIfInBounds_toArray, List.set_cons_zero, List.set_cons_succ]
      refine take_on (i := 3) (v := ?_) rfl rfl (by kernel_rfl) (by kernel_rfl) (by kernel_rfl) (fun _ _ _ h => h) rfl ?_ hHeld ?_
      rotate_left
      · (intro wq hSq; have hq3 := (hSq.cell (p := ⟨w.heap.size, 3, none⟩) hlb).trans c3; go_simp <;> first | with_reducible rfl | rfl)
      simp only [Act.put, List.setIfInBounds_toArray, List.set_cons_zero, List.set_cons_succ]
      refine take_one (i := 1) rfl (by kernel_rfl) (fun K hK => ?_)
      go_simp
      refine (hx1 _ (hrz.below hHeld)).mono ?_; rintro e w1 ⟨⟨r1, rfl, ho1⟩, hb1⟩; obtain ⟨aA, cA, hvA, _, hfA, _, _⟩ := ho1.row; subst hvA; have hH0 := hHeld.size; have hH1 := hHeld.trans (hb1.mono hHeld.size)
      try go_wp2_with fail
      refine hK.out _ _ ?_ (fun hHeld => ?_)
      · exact hH1
      clear hK K
      try simp only [Act.put, List.setIfInBounds_toArray, List.set_cons_zero, List.set_cons_succ]
      refine take_one (i := 4) rfl (by kernel_rfl) (fun K hK => ?_)
      go_simp
      refine (hx2 _ (hrp.below hHeld)).mono ?_; rintro e w2 ⟨⟨r2, rfl, ho2⟩, hb2⟩; obtain ⟨aM, cM, hvM, _, hfM, _, _⟩ := ho2.row; subst hvM; have hH2 := hHeld.trans (hb2.mono hHeld.size)
      try go_wp2_with fail
      refine hK.out _ _ ?_ (fun hHeld => ?_)
      · exact hH2
      clear hK K
      try simp only [Act.put, List.setIfInBounds_toArray, List.set_cons_zero, List.set_cons_succ]
      refine take_on (i := 5) (v := ?_) rfl rfl (by kernel_rfl) (by kernel_rfl) (by kernel_rfl) (fun _ _ _ h => h) rfl ?_ hHeld ?_
      rotate_left
      · (intro wq hSq; have hq3 := (hSq.cell (p := ⟨w.heap.size, 3, none⟩) hlb).trans c3; go_simp <;> first | with_reducible rfl | rfl)
      simp only [Act.put, List.setIfInBounds_toArray, List.set_cons_zero, List.set_cons_succ]
      refine take_on (i := 6) (v := ?_) rfl rfl (by kernel_rfl) (by kernel_rfl) (by kernel_rfl) (fun _ _ _ h => h) rfl ?_ hHeld ?_
      rotate_left
      · (intro wq hSq; have hq3 := (hSq.cell (p := ⟨w.heap.size, 3, none⟩) hlb).trans c3; go_simp <;> first | with_reducible rfl | rfl)
      simp only [Act.put, List.setIfInBounds_toArray, List.set_cons_zero, List.set_cons_succ]
      refine wpAnyH_done (by kernel_rfl) ?_ _
      obtain ⟨gA, _, hga, _, hgA, hhA, _⟩ := ho1.at hGp
      obtain ⟨gM, _, hgm, _, hgM, hhM, _⟩ := ho2.at hHp
      have hgA1 : gA < w1.heap.size := (Array.getElem?_eq_some_iff.1 hhA).1
      have hgM2 : gM < w2.heap.size := (Array.getElem?_eq_some_iff.1 hhM).1
      subst hga
      subst hgm
      have HOA := hide_it (ho1.below hb2)
      have HOM := hide_it ho2
      have HB2 := hide_it hHeld
      have hs12 := hb2.size
      have hgA0 : W0.heap.size ≤ gA := by omega
      have hgM1 : w1.heap.size ≤ gM := hgM
      have hW2 := hHeld.size
      have hcA : zs.length ≤ cA := by omega
      have hcM : p.length ≤ cM := by omega
      clear ho1 ho2 hb1 hb2 hHeld hH1 hH2 hhA hhM hgM hx1 hx2 hrz hrp
      have hlb2 : w.heap.size < w2.heap.size := by omega
      obtain ⟨b0, b1, b2, b3⟩ := four_cells ((HB2.out.block w.heap.size hlb).trans HBX.out)
      obtain ⟨d0, d1, d2, d3⟩ := four_cells ((Below.heap_alloc w2 (.cells #[.int .i64 0, .int .u64 0, .int .i64 0, .slice none 0 0] 26) _ hlb2).trans ((HB2.out.block w.heap.size hlb).trans HBX.out))
      have hb3 : Below w2.heap.size w2 (w2.alloc (.cells #[.int .i64 (k : Int), .int .u64 (v : Int), .int .i64 n, .slice (some ⟨gM, 0, none⟩) p.length cM] 26)).drew := ((Below.refl _ _).alloc (Nat.le_refl _) _).drew
      have hbw2 := HBW.out.trans (HB2.out.mono HBW.out.size)
      have hbw3 := hbw2.trans (hb3.mono hbw2.size)
      have hb03 := HB2.out.trans (hb3.mono HB2.out.size)
      have hwa := want_any a ca zs (Thing.mk k v n p ta tc) _ (HOK.out k) (HP.out.below hbw3) (HA.out.row.below hbw3) (by omega) hna
      have HE2 : Hid ((Thing.mk k v n p (some ⟨gM, 0, none⟩) cM).enc = (Thing.mk k v n p ta tc).enc) := rfl
      have hEl := Thing.bound (HOK.out k)
      obtain ⟨E, hE⟩ : ∃ E, E = zs ++ (Thing.mk k v n p ta tc).enc := ⟨_, rfl⟩
      have hElen : E.length ≤ 2200000 := by rw [hE, List.length_append]; omega
      have HE := hide_it hE
      have HOA3 := hide_it (HOA.out.below hb3)
      have HOM3 := hide_it (HOM.out.below hb3)
      have HU3 : Hid ((w2.alloc (.cells #[.int .i64 (k : Int), .int .u64 (v : Int), .int .i64 n, .slice (some ⟨gM, 0, none⟩) p.length cM] 26)).drew.heap[w2.heap.size]? = some (.cells #[.int .i64 (k : Int), .int .u64 (v : Int), .int .i64 n, .slice (some ⟨gM, 0, none⟩) p.length cM] 26 (0, 0))) := heap_alloc_new w2 _
      have HB03 := hide_it hb03
      have HBW3 := hide_it hbw3
      clear c0 c1 c2 c3 hE hEl hb03 hbw3 hb3 hbw2 HOA HOM HB2
      go_wp2_with fail
      go_region
      all_goals go_wp2_with fail
      refine hwa.mono ?_
      rintro e w4 ⟨⟨r4, rfl, ho4⟩, hb4⟩
      rw [← HE.out] at ho4
      obtain ⟨aw, cw, hv4, hr4, _, _, _⟩ := ho4.row
      subst hv4
      have hs4 := hb4.size
      simp only [World.size_alloc, World.drew_is_drewN, World.heap_drewN] at hs4
      have HRW := hide_it hr4
      have HOA4 := hide_it (HOA3.out.below hb4)
      have HOM4 := hide_it (HOM3.out.below hb4)
      have hu4 := (hb4.block w2.heap.size (by simp)).trans HU3.out
      have HU4 := hide_it hu4
      obtain ⟨y0, y1, y2, y3⟩ := four_cells hu4
      have HB04 := hide_it (HB03.out.trans (hb4.mono HB03.out.size))
      have HBW4 := hide_it (HBW3.out.trans (hb4.mono HBW3.out.size))
      have hlu : w2.heap.size < w4.heap.size := by omega
      have hra4 : RowB w4 (some ⟨gA, 0, none⟩) zs := by have h9 := own_take HOA4.out zs.length; rw [HGt.out] at h9; exact h9
      have hrm4 : RowB w4 (some ⟨gM, 0, none⟩) p := by have h9 := own_take HOM4.out p.length; rw [HHt.out] at h9; exact h9
      have hla : ∀ W, RowB W (some ⟨gM, 0, none⟩) p → RowB W (some ⟨gA, 0, none⟩) zs → Calls Try.prog 9 #[.slice (some ⟨gA, 0, none⟩) zs.length cA, .agg #[.int .i64 (k : Int), .int .u64 (v : Int), .int .i64 n, .slice (some ⟨gM, 0, none⟩) p.length cM]] W fun e w' => Laid W E e w' := fun W h1 h2 => by
        have h9 := laid_any (some ⟨gA, 0, none⟩) cA zs (Thing.mk k v n p (some ⟨gM, 0, none⟩) cM) W ⟨(HOK.out k).v64, (HOK.out k).n1, (HOK.out k).n2, (HOK.out k).p8, (HOK.out k).len, fun e => by cases e⟩ h1 h2 (by omega) (fun e => by cases e)
        rw [HE2.out, ← HE.out] at h9
        exact h9
      clear hwa ho4 hb4 hr4 hu4 HOA3 HOM3 HU3 HB03 HBW3 b0 b1 b2 b3 d0 d1 d2 d3
      go_wp2_with fail
      refine wp_region_held_drew (S := (fun w' => Below w4.heap.size w4 w')) (by kernel_rfl) ?_ (fun hHeld => ?_)
      · exact (Below.refl _ _).drew
      refine take_on (i := 0) (v := ?_) rfl rfl (by kernel_rfl) (by kernel_rfl) (by kernel_rfl) (fun _ _ _ h => h) rfl ?_ hHeld ?_
      rotate_left
      · (intro wq hSq; have hq0 := (hSq.cell (p := ⟨w2.heap.size, 0, none⟩) hlu).trans y0; have hq1 := (hSq.cell (p := ⟨w2.heap.size, 1, none⟩) hlu).trans y1; have hq2 := (hSq.cell (p := ⟨w2.heap.size, 2, none⟩) hlu).trans y2; have hq3 := (hSq.cell (p := ⟨w2.heap.size, 3, none⟩) hlu).trans y3; go_simp <;> first | with_reducible rfl | rfl)
      simp only [Act.put, List.setIfInBounds_toArray, List.set_cons_zero, List.set_cons_succ]
      refine take_on (i := 1) (v := ?_) rfl rfl (by kernel_rfl) (by kernel_rfl) (by kernel_rfl) (fun _ _ _ h => h) rfl ?_ hHeld ?_
      rotate_left
      · (intro wq hSq; have hq0 := (hSq.cell (p := ⟨w2.heap.size, 0, none⟩) hlu).trans y0; have hq1 := (hSq.cell (p := ⟨w2.heap.size, 1, none⟩) hlu).trans y1; have hq2 := (hSq.cell (p := ⟨w2.heap.size, 2, none⟩) hlu).trans y2; have hq3 := (hSq.cell (p := ⟨w2.heap.size, 3, none⟩) hlu).trans y3; go_simp <;> first | with_reducible rfl | rfl)
      simp only [Act.put, List.setIfInBounds_toArray, List.set_cons_zero, List.set_cons_succ]
      refine take_on (i := 3) (v := ?_) rfl rfl (by kernel_rfl) (by kernel_rfl) (by kernel_rfl) (fun _ _ _ h => h) rfl ?_ hHeld ?_
      rotate_left
      · (intro wq hSq; have hq0 := (hSq.cell (p := ⟨w2.heap.size, 0, none⟩) hlu).trans y0; have hq1 := (hSq.cell (p := ⟨w2.heap.size, 1, none⟩) hlu).trans y1; have hq2 := (hSq.cell (p := ⟨w2.heap.size, 2, none⟩) hlu).trans y2; have hq3 := (hSq.cell (p := ⟨w2.heap.size, 3, none⟩) hlu).trans y3; go_simp <;> first | with_reducible rfl | rfl)
      simp only [Act.put, List.setIfInBounds_toArray, List.set_cons_zero, List.set_cons_succ]
      refine take_on (i := 4) (v := ?_) rfl rfl (by kernel_rfl) (by kernel_rfl) (by kernel_rfl) (fun _ _ _ h => h) rfl ?_ hHeld ?_
      rotate_left
      · (intro wq hSq; have hq0 := (hSq.cell (p := ⟨w2.heap.size, 0, none⟩) hlu).trans y0; have hq1 := (hSq.cell (p := ⟨w2.heap.size, 1, none⟩) hlu).trans y1; have hq2 := (hSq.cell (p := ⟨w2.heap.size, 2, none⟩) hlu).trans y2; have hq3 := (hSq.cell (p := ⟨w2.heap.size, 3, none⟩) hlu).trans y3; go_simp <;> first | with_reducible rfl | rfl)
      simp only [Act.put, List.setIfInBounds_toArray, List.set_cons_zero, List.set_cons_succ]
      refine take_one (i := 2) rfl (by kernel_rfl) (fun K hK => ?_)
      go_simp
      refine (hla _ (hrm4.below hHeld) (hra4.below hHeld)).mono ?_; rintro e w5 ⟨⟨r5, rfl, ho5⟩, hb5⟩; obtain ⟨a5, c5, hv5, hr5, _, _, _⟩ := ho5.row; subst hv5; have hB5 := hHeld.size; have hH5 := hHeld.trans (hb5.mono hHeld.size)
      try go_wp2_with fail
      refine hK.out _ _ ?_ (fun hHeld => ?_)
      · exact hH5
      clear hK K
      try simp only [Act.put, List.setIfInBounds_toArray, List.set_cons_zero, List.set_cons_succ]
      refine take_one (i := 5) rfl (by kernel_rfl) (fun K hK => ?_)
      go_simp
      refine (hla _ (hrm4.below hHeld) (hra4.below hHeld)).mono ?_; rintro e w6 ⟨⟨r6, rfl, ho6⟩, hb6⟩; obtain ⟨a6, c6, hv6, hr6, _, _, _⟩ := ho6.row; subst hv6; have hH6 := hHeld.trans (hb6.mono hHeld.size)
      try go_wp2_with fail
      refine hK.out _ _ ?_ (fun hHeld => ?_)
      · exact hH6
      clear hK K
      try simp only [Act.put, List.setIfInBounds_toArray, List.set_cons_zero, List.set_cons_succ]
      refine take_on (i := 6) (v := ?_) rfl rfl (by kernel_rfl) (by kernel_rfl) (by kernel_rfl) (fun _ _ _ h => h) rfl ?_ hHeld ?_
      rotate_left
      · (intro wq hSq; have hq0 := (hSq.cell (p := ⟨w2.heap.size, 0, none⟩) hlu).trans y0; have hq1 := (hSq.cell (p := ⟨w2.heap.size, 1, none⟩) hlu).trans y1; have hq2 := (hSq.cell (p := ⟨w2.heap.size, 2, none⟩) hlu).trans y2; have hq3 := (hSq.cell (p := ⟨w2.heap.size, 3, none⟩) hlu).trans y3; go_simp <;> first | with_reducible rfl | rfl)
      simp only [Act.put, List.setIfInBounds_toArray, List.set_cons_zero, List.set_cons_succ]
      refine take_on (i := 7) (v := ?_) rfl rfl (by kernel_rfl) (by kernel_rfl) (by kernel_rfl) (fun _ _ _ h => h) rfl ?_ hHeld ?_
      rotate_left
      · (intro wq hSq; have hq0 := (hSq.cell (p := ⟨w2.heap.size, 0, none⟩) hlu).trans y0; have hq1 := (hSq.cell (p := ⟨w2.heap.size, 1, none⟩) hlu).trans y1; have hq2 := (hSq.cell (p := ⟨w2.heap.size, 2, none⟩) hlu).trans y2; have hq3 := (hSq.cell (p := ⟨w2.heap.size, 3, none⟩) hlu).trans y3; go_simp <;> first | with_reducible rfl | rfl)
      simp only [Act.put, List.setIfInBounds_toArray, List.set_cons_zero, List.set_cons_succ]
      refine wpAnyH_done (by kernel_rfl) ?_ _
      have hs45 := hH5.size
      have hs56 := hb6.size
      have hin5 := ho5.inside
      have HO5 := hide_it (ho5.below hb6)
      have HO6 := hide_it ho6
      have HR5 := hide_it (hr5.below hb6)
      have HR6 := hide_it hr6
      have HB6 := hide_it hH6
      clear ho5 ho6 hb5 hb6 hr5 hr6 hHeld hH5 hH6 hla
      clear y0 y1 y2 y3 hra4 hrm4
      have hrw6 := HRW.out.below HB6.out
      have hq1 := equal_any a5 aw c5 cw E E w6 HR5.out hrw6 (by unfold maxLen; omega) (by unfold maxLen; omega)
      have hq2 := fun q => equal_any a6 aw c6 cw E E (w6.drewN q) (HR6.out.below (below_drewN (Below.refl _ _) q)) (hrw6.below (below_drewN (Below.refl _ _) q)) (by unfold maxLen; omega) (by unfold maxLen; omega)
      rw [decide_eq_true (rfl : E = E)] at hq1
      simp only [decide_true] at hq2
      clear hrw6
      go_wp2_with fail
      refine hq1.mono ?_
      rintro e w' ⟨rfl, q1, rfl⟩
      clear hq1
      go_wp2_with fail
      refine (hq2 q1).mono ?_
      rintro e w' ⟨rfl, q2, rfl⟩
      clear hq2
      have hbd := below_drewN (Below.refl w6.heap.size w6) (q1 + q2)
      have hb46 := HB6.out.trans (hbd.mono HB6.out.size)
      have HBx := hide_it hb46
      have HO5x := hide_it (HO5.out.below hbd)
      have HO6x := hide_it (HO6.out.below hbd)
      have hszx : w6.heap.size ≤ (w6.drewN (q1 + q2)).heap.size := Nat.le_refl _
      clear hbd hb46 HO5 HO6 HR5 HR6 HB6
      go_wp2_with fail
      generalize w6.drewN (q1 + q2) = x6 at *
      have hwrow := fun W (hb : Below w4.heap.size w4 W) => whole_any (some ⟨gA, 0, none⟩) a cA ca G zs W ((own_take HOA4.out G.length).below hb |> fun h => by rw [List.take_length] at h; exact h) ((HA.out.row.below HBW4.out).below hb) (by omega) (by omega) hna
      have hwrowM := fun W (hb : Below w4.heap.size w4 W) => whole_any (some ⟨gM, 0, none⟩) ta cM tc H p W ((own_take HOM4.out H.length).below hb |> fun h => by rw [List.take_length] at h; exact h) ((HP.out.below HBW4.out).below hb) (by omega) (by omega) hnp
      simp only [decide_eq_true HG.out] at hwrow
      simp only [decide_eq_true HH.out] at hwrowM
      refine (hwrow _ HBx.out).mono ?_
      rintro e x7 ⟨rfl, hb7⟩
      have hb47 := HBx.out.trans (hb7.mono HBx.out.size)
      have HO57 := hide_it (HO5x.out.below hb7)
      have HO67 := hide_it (HO6x.out.below hb7)
      have HB47 := hide_it hb47
      have hs67 := hb7.size
      obtain ⟨b0, b1, b2, b3⟩ := four_cells ((hb47.block w.heap.size (by omega)).trans ((HB04.out.block w.heap.size hlb).trans HBX.out))
      clear b0 b1 b2 hb7 hb47 HBx HO5x HO6x
      go_wp2_with fail
      refine (hwrowM _ HB47.out).mono ?_
      rintro e x8 ⟨rfl, hb8⟩
      have HB48 := hide_it (HB47.out.trans (hb8.mono HB47.out.size))
      have HO58 : Hid (OwnB x8 w4.heap.size (.slice a5 E.length c5) E) := HO57.out.below hb8
      have HO68 := hide_it (HO67.out.below hb8)
      have hs78 := hb8.size
      clear b3 hb8 HO57 HO67 HB47
      go_wp2_with fail
      go_loopw [74] (fun i wr => ∃ m : Nat, m ≤ E.length ∧ i = .int .i64 (m : Int) ∧ OwnB wr w4.heap.size (.slice a5 E.length c5) (List.replicate m 1 ++ E.drop m) ∧ OwnB wr w5.heap.size (.slice a6 E.length c6) E ∧ Below w4.heap.size x8 wr) (fun i _ => E.length - (intOf i).toNat)
      case atStart => exact ⟨0, by omega, rfl, by simpa using HO58.out, HO68.out, Below.refl _ _⟩
      case round =>
        obtain ⟨m, hm, rfl, hown, htwo, hbe⟩ := hrel
        by_cases hlm : m < E.length
        · have hfl := fill_len (zs := E) (x := 1) hm
          obtain ⟨gB, cur, hge, heq0, hbg, hh, hcur⟩ := hown.at (by omega)
          obtain ⟨x0, hck⟩ : ∃ x0 : Int, wr.cell? ⟨gB, m, none⟩ = some (.int .u8 x0) := ⟨_, (cell_of_row _ _ _ _ _ _ hh).trans (hcur m (by omega))⟩
          clear heq0
          have hfk := frozen_of_row wr gB m _ _ hh
          have hdm : decide ((m : Int) < (E.length : Int)) = true := by simp; omega
          have hi1 : (m : Int) < (E.length : Int) := by omega
          have hgs := grown_setCell (World.grownBy.refl wr (some gB)) m (.int .u8 1)
          have hgi := hin5 gB (ob _ _ _ _ hge)
          have hk1 := htwo.keep hgs (fun j e => by have := htwo.ge e; simp; omega)
          have HKP := hide_it (And.intro hk1 (hbe.setCell (p := ⟨gB, m, none⟩) hbg (.int .u8 1)))
          clear htwo hbe hk1
          subst hge
          have hset := hown.set (i := m) (by omega) 1
          rw [fill_step hlm] at hset
          have HST := hide_it hset
          clear hown hset hh hcur hfl hgs
          go_wp2_with fail
          go_roundw
          case rel => exact ⟨m + 1, by omega, by go_num, HST.out, HKP.out⟩
          case measure => simp [intOf]; omega
        · have hke : m = E.length := by omega
          have hdm : decide ((m : Int) < (E.length : Int)) = false := by simp; omega
          have hfull : OwnB wr w4.heap.size (.slice a5 E.length c5) (List.replicate E.length 1) := by rw [hke, fill_all] at hown; exact hown
          clear hown
          have HON := hide_it hfull
          have HTW := hide_it htwo
          have HBE := hide_it hbe
          clear hfull htwo hbe hke
          go_wp2_with fail
          go_loopw [83] (fun i wr => ∃ m : Nat, m ≤ E.length ∧ i = .int .i64 (m : Int) ∧ OwnB wr w5.heap.size (.slice a6 E.length c6) (List.replicate m 2 ++ E.drop m) ∧ OwnB wr w4.heap.size (.slice a5 E.length c5) (List.replicate E.length 1) ∧ Below w4.heap.size x8 wr) (fun i _ => E.length - (intOf i).toNat)
          case atStart => exact ⟨0, by omega, rfl, by simpa using HTW.out, HON.out, HBE.out⟩
          case round =>
            obtain ⟨m, hm, rfl, hown, hone, hbe⟩ := hrel
            by_cases hlm : m < E.length
            · have hfl := fill_len (zs := E) (x := 2) hm
              obtain ⟨gB, cur, hge, heq0, hbg, hh, hcur⟩ := hown.at (by omega)
              obtain ⟨x0, hck⟩ : ∃ x0 : Int, wr.cell? ⟨gB, m, none⟩ = some (.int .u8 x0) := ⟨_, (cell_of_row _ _ _ _ _ _ hh).trans (hcur m (by omega))⟩
              clear heq0
              have hfk := frozen_of_row wr gB m _ _ hh
              have hdm : decide ((m : Int) < (E.length : Int)) = true := by simp; omega
              have hi1 : (m : Int) < (E.length : Int) := by omega
              have hgs := grown_setCell (World.grownBy.refl wr (some gB)) m (.int .u8 2)
              have hk1 := hone.keep hgs (fun j e => by have := hin5 j e; simp; omega)
              have HKP := hide_it (And.intro hk1 (hbe.setCell (p := ⟨gB, m, none⟩) (show w4.heap.size ≤ gB by omega) (.int .u8 2)))
              clear hone hbe hk1
              subst hge
              have hset := hown.set (i := m) (by omega) 2
              rw [fill_step hlm] at hset
              have HST := hide_it hset
              clear hown hset hh hcur hfl hgs
              go_wp2_with fail
              go_roundw
              case rel => exact ⟨m + 1, by omega, by go_num, HST.out, HKP.out⟩
              case measure => simp [intOf]; omega
            · have hke : m = E.length := by omega
              have hdm : decide ((m : Int) < (E.length : Int)) = false := by simp; omega
              have hfull : OwnB wr w5.heap.size (.slice a6 E.length c6) (List.replicate E.length 2) := by rw [hke, fill_all] at hown; exact hown
              clear hown
              have HON := hide_it hone
              have HTW := hide_it hfull
              have HDI : Hid (∀ j, (Value.slice a5 E.length c5).ownBlock = some j → (Value.slice a6 E.length c6).ownBlock ≠ some j) := fun j e e2 => by have := hin5 j e; have := hfull.ge e2; omega
              have HBE := hide_it hbe
              clear hone hfull hbe hke
              go_wp2_with fail
              go_loopw [11, 90] (fun v i wr => ∃ m : Nat, m ≤ 70 ∧ i = .int .i64 (m : Int) ∧ OwnB wr w4.heap.size v (List.replicate E.length 1 ++ List.replicate m 3) ∧ OwnB wr w5.heap.size (.slice a6 E.length c6) (List.replicate E.length 2) ∧ (∀ j, v.ownBlock = some j → (Value.slice a6 E.length c6).ownBlock ≠ some j) ∧ Below w4.heap.size x8 wr) (fun _ i _ => 70 - (intOf i).toNat)
              case atStart => exact ⟨0, by omega, rfl, by simpa using HON.out, HTW.out, HDI.out, HBE.out⟩
              case round =>
                obtain ⟨m, hm, rfl, hown, htwo, hdis, hbe⟩ := hrel
                by_cases hlm : m < 70
                · have hdm : decide ((m : Int) < 70) = true := by simp; omega
                  have hll : (List.replicate E.length 1 ++ List.replicate m 3).length + 1 ≤ 140737488355328 := by simp; omega
                  have hbs : w4.heap.size ≤ wr.heap.size := (by have := hbe.size; omega)
                  go_wp2_with (at_builtin; refine wpList_append_byte _ rfl _ _ rfl w4.heap.size _ _ rfl hown 3 rfl hll hbs ?_; intro v4 x4 hown4 hg4 hat4)
                  rw [more_step] at hown4
                  have hal9 : Below wr.heap.size wr (wr.alloc (.cells #[.int .u8 3] 5)) := (Below.refl _ _).alloc (Nat.le_refl _) _
                  have ht4 := (htwo.below hal9).keep hg4 (fun j e e2 => hdis j e2 e)
                  have hd4 : ∀ j, v4.ownBlock = some j → (Value.slice a6 E.length c6).ownBlock ≠ some j := fun j e e2 => by
                    rcases hat4 with h | h
                    · rw [h] at e; exact hdis j e e2
                    · rw [h] at e; cases e; have := htwo.inside _ e2; omega
                  have hb4 : Below w4.heap.size x8 x4 := (hbe.alloc (by have := hbe.size; omega) _).grown hg4 (by have := hbe.size; simp; omega) (fun j e => by have := hown.ge e; omega)
                  have HKP := hide_it (And.intro ht4 (And.intro hd4 hb4))
                  go_roundw
                  case rel => exact ⟨m + 1, by omega, by go_num, hown4, HKP.out⟩
                  case measure => simp [intOf]; omega
                · have hke : m = 70 := by omega
                  rw [hke] at hown
                  have hdm : decide ((m : Int) < 70) = false := by simp; omega
                  clear hke
                  obtain ⟨a15, c15, e15, _⟩ := hown.row
                  generalize (List.replicate E.length 1 ++ List.replicate 70 3).length = n15 at e15
                  subst e15
                  have HON := hide_it hown
                  have HTW := hide_it htwo
                  have HDI : Hid (∀ j, (Value.slice a6 E.length c6).ownBlock = some j → (Value.slice a15 n15 c15).ownBlock ≠ some j) := fun j e e2 => hdis j e2 e
                  have HBE := hide_it hbe
                  clear hown htwo hdis hbe
                  go_wp2_with fail
                  go_loopw [12, 96] (fun v i wr => ∃ m : Nat, m ≤ 70 ∧ i = .int .i64 (m : Int) ∧ OwnB wr w5.heap.size v (List.replicate E.length 2 ++ List.replicate m 4) ∧ OwnB wr w4.heap.size (.slice a15 n15 c15) (List.replicate E.length 1 ++ List.replicate 70 3) ∧ (∀ j, v.ownBlock = some j → (Value.slice a15 n15 c15).ownBlock ≠ some j) ∧ Below w4.heap.size x8 wr) (fun _ i _ => 70 - (intOf i).toNat)
                  case atStart => exact ⟨0, by omega, rfl, by simpa using HTW.out, HON.out, HDI.out, HBE.out⟩
                  case round =>
                    obtain ⟨m, hm, rfl, hown, hone, hdis, hbe⟩ := hrel
                    by_cases hlm : m < 70
                    · have hdm : decide ((m : Int) < 70) = true := by simp; omega
                      have hll : (List.replicate E.length 2 ++ List.replicate m 4).length + 1 ≤ 140737488355328 := by simp; omega
                      have hbs : w5.heap.size ≤ wr.heap.size := (by have := hbe.size; omega)
                      go_wp2_with (at_builtin; refine wpList_append_byte _ rfl _ _ rfl w5.heap.size _ _ rfl hown 4 rfl hll hbs ?_; intro v4 x4 hown4 hg4 hat4)
                      rw [more_step] at hown4
                      have hal9 : Below wr.heap.size wr (wr.alloc (.cells #[.int .u8 4] 5)) := (Below.refl _ _).alloc (Nat.le_refl _) _
                      have ht4 := (hone.below hal9).keep hg4 (fun j e e2 => hdis j e2 e)
                      have hd4 : ∀ j, v4.ownBlock = some j → (Value.slice a15 n15 c15).ownBlock ≠ some j := fun j e e2 => by
                        rcases hat4 with h | h
                        · rw [h] at e; exact hdis j e e2
                        · rw [h] at e; cases e; have := hone.inside _ e2; omega
                      have hb4 : Below w4.heap.size x8 x4 := (hbe.alloc (by have := hbe.size; omega) _).grown hg4 (by have := hbe.size; simp; omega) (fun j e => by have := hown.ge e; omega)
                      have HKP := hide_it (And.intro ht4 (And.intro hd4 hb4))
                      go_roundw
                      case rel => exact ⟨m + 1, by omega, by go_num, hown4, HKP.out⟩
                      case measure => simp [intOf]; omega
                    · have hke : m = 70 := by omega
                      rw [hke] at hown
                      have hdm : decide ((m : Int) < 70) = false := by simp; omega
                      clear hke
                      have hall := HOA4.out.under (HB48.out.trans hbe) (fun j e => by cases e; show gA < w4.heap.size; omega)
                      have hmos := HOM4.out.under (HB48.out.trans hbe) (fun j e => by cases e; show gM < w4.heap.size; omega)
                      have hb4w := HB48.out.trans hbe
                      obtain ⟨X, hX⟩ : ∃ X, X = List.replicate E.length 1 ++ List.replicate 70 3 := ⟨_, rfl⟩
                      obtain ⟨Y, hY⟩ : ∃ Y, Y = List.replicate E.length 2 ++ List.replicate 70 4 := ⟨_, rfl⟩
                      rw [← hX] at hone
                      rw [← hY] at hown
                      obtain ⟨a12, c12, e12, hr12, _, _, _⟩ := hown.row
                      obtain ⟨a11, c11, e11, hr11, _, _, _⟩ := hone.row
                      cases e11
                      subst e12
                      have hm1 := marked_any a15 c15 E.length 1 3 X wr hr11 (by rw [hX]; simp; omega) (by omega) (by rw [hX]; exact mark_row)
                      have hm2 := marked_any a12 c12 E.length 2 4 Y wr hr12 (by rw [hY]; simp; omega) (by omega) (by rw [hY]; exact mark_row)
                      have hww := hwrow _ hb4w
                      have HALL := hide_it hall
                      have HB4W := hide_it hb4w
                      have hwrsz := hb4w.size
                      clear hX hY hall hmos hone hown hr11 hr12 hbe hdis hb4w hwrow
                      go_wp2_with fail
                      refine hm1.mono ?_
                      rintro e w' ⟨rfl, hq⟩
                      have hq2 := hq.symm
                      subst hq2
                      clear hq hm1
                      go_wp2_with fail
                      refine hm2.mono ?_
                      rintro e w' ⟨rfl, hq⟩
                      have hq2 := hq.symm
                      subst hq2
                      clear hq hm2
                      go_wp2_with fail
                      refine hww.mono ?_
                      rintro e x9 ⟨rfl, hb9⟩
                      have hb49 := HB4W.out.trans (hb9.mono HB4W.out.size)
                      have HALL9 := hide_it (HALL.out.below hb9)
                      have HB49 := hide_it hb49
                      have hs9 := hb9.size
                      have hwM := hwrowM _ hb49
                      obtain ⟨b0, b1, b2, b3⟩ := four_cells ((hb49.block w.heap.size (by omega)).trans ((HB04.out.block w.heap.size hlb).trans HBX.out))
                      clear b0 b1 b2 hb9 hb49 hww HALL HB4W hwrowM
                      go_wp2_with fail
                      refine hwM.mono ?_
                      rintro e xa ⟨rfl, hba⟩
                      have hb4a := HB49.out.trans (hba.mono HB49.out.size)
                      have HALLa := hide_it (HALL9.out.below hba)
                      have HB4a := hide_it hb4a
                      have hsa := hba.size
                      clear b3 hwM hba hb4a HALL9 HB49
                      go_wp2_with fail
                      go_loopw [127] (fun i wr => ∃ (m : Nat) (Y : List Nat), m ≤ zs.length ∧ i = .int .i64 (m : Int) ∧ Y.length = G.length ∧ OwnB wr W0.drew.heap.size (.slice (some ⟨gA, 0, none⟩) G.length cA) Y ∧ xa.grownBy wr (some gA)) (fun i _ => zs.length - (intOf i).toNat)
                      case atStart => exact ⟨0, G, by omega, rfl, rfl, HALLa.out, World.grownBy.refl _ _⟩
                      case round =>
                        obtain ⟨m, Y, hm, rfl, hYl, hown, hgw⟩ := hrel
                        by_cases hlm : m < zs.length
                        · obtain ⟨gB, cur, hge, heq0, hbg, hh, hcur⟩ := hown.at (by omega)
                          have hgg : gB = gA := by cases hge; rfl
                          subst hgg
                          have hck : wr.cell? ⟨gB, m, none⟩ = some (.int .u8 ((at0 Y m : Nat) : Int)) := (cell_of_row _ _ _ _ _ _ hh).trans (hcur m (by omega))
                          have hfk := frozen_of_row wr gB m _ _ hh
                          have hwb : IntKind.u8.wrap ((at0 Y m : Int) + 1) = (((at0 Y m + 1) % 256 : Nat) : Int) := by have h9 := wrap_byte (at0 Y m + 1); simpa using h9
                          have hset := hown.set (i := m) (by omega) ((at0 Y m + 1) % 256)
                          have hdm : decide ((m : Int) < (zs.length : Int)) = true := by simp; omega
                          have hi1 : (m : Int) < (zs.length : Int) := by omega
                          have HKP := hide_it (grown_setCell hgw m (.int .u8 (((at0 Y m + 1) % 256 : Nat) : Int)))
                          have HST := hide_it hset
                          have HYL := hide_it hYl
                          clear hge heq0 hh hcur hown hset hgw hYl
                          generalize hgen : at0 Y m = y at *
                          go_wp2_with fail
                          go_roundw
                          case rel => exact ⟨m + 1, Y.set m ((y + 1) % 256), by omega, by go_num, by simp [HYL.out], HST.out, HKP.out⟩
                          case measure => simp [intOf]; omega
                        · have hdm : decide ((m : Int) < (zs.length : Int)) = false := by simp; omega
                          have hb4r : Below w.heap.size w wr := (HBW4.out.trans (HB4a.out.mono HBW4.out.size)).grown hgw (by have := HBW4.out.size; omega) (fun j e => by cases e; omega)
                          have hbu : wr.heap[w2.heap.size]? = _ := (hgw.block w2.heap.size (by omega) (by simp; omega)).trans ((HB4a.out.block w2.heap.size (by omega)).trans HU4.out)
                          have hbt : wr.heap[w.heap.size]? = _ := (hgw.block w.heap.size (by omega) (by simp; omega)).trans ((HB4a.out.block w.heap.size (by omega)).trans ((HB04.out.block w.heap.size hlb).trans HBX.out))
                          have hlur : w2.heap.size < wr.heap.size := (Array.getElem?_eq_some_iff.1 hbu).1
                          have hltr : w.heap.size < wr.heap.size := (Array.getElem?_eq_some_iff.1 hbt).1
                          obtain ⟨y0, y1, y2, y3⟩ := four_cells hbu
                          obtain ⟨t0, t1, t2, t3⟩ := four_cells hbt
                          have hzr := own_take hown zs.length
                          have hZl : (Y.take zs.length).length = zs.length := by simp; omega
                          have hmr : RowB wr (some ⟨gM, 0, none⟩) p := by
                            have h8 := (HOM4.out.below HB4a.out).keep hgw (fun j e => by cases e; simp; omega)
                            have h9 := own_take h8 p.length
                            rw [HHt.out] at h9; exact h9
                          have hpr : RowB wr ta p := HP.out.below hb4r
                          generalize Y.take zs.length = Z at hzr hZl
                          obtain ⟨F, hF⟩ : ∃ F, F = Z ++ (Thing.mk k v n p ta tc).enc := ⟨_, rfl⟩
                          have hFl : F.length ≤ 2200000 := by have := Thing.bound (HOK.out k); rw [hF, List.length_append]; omega
                          have hla : ∀ W, RowB W (some ⟨gM, 0, none⟩) p → RowB W (some ⟨gA, 0, none⟩) Z → Calls Try.prog 9 #[.slice (some ⟨gA, 0, none⟩) zs.length cA, .agg #[.int .i64 (k : Int), .int .u64 (v : Int), .int .i64 n, .slice (some ⟨gM, 0, none⟩) p.length cM]] W fun e w' => Laid W F e w' := fun W h1 h2 => by
                            have h9 := laid_any (some ⟨gA, 0, none⟩) cA Z (Thing.mk k v n p (some ⟨gM, 0, none⟩) cM) W ⟨(HOK.out k).v64, (HOK.out k).n1, (HOK.out k).n2, (HOK.out k).p8, (HOK.out k).len, fun e => by cases e⟩ h1 h2 (by omega) (fun e => by cases e)
                            rw [HE2.out, ← hF, hZl] at h9
                            exact h9
                          have hwa : ∀ W, RowB W ta p → RowB W (some ⟨gA, 0, none⟩) Z → Calls Try.prog 31 #[.slice (some ⟨gA, 0, none⟩) zs.length cA, .agg #[.int .i64 (k : Int), .int .u64 (v : Int), .int .i64 n, .slice ta p.length tc]] W fun e w' => Laid W F e w' := fun W h1 h2 => by
                            have h9 := want_any (some ⟨gA, 0, none⟩) cA Z (Thing.mk k v n p ta tc) W (HOK.out k) h1 h2 (by omega) (fun e => by cases e)
                            rw [← hF, hZl] at h9
                            exact h9
                          have HBT := hide_it hbt
                          have HB4R := hide_it hb4r
                          clear hF hZl hown hgw hbu hbt hb4r hYl
                          generalize wr = xb at *
                          go_wp2_with fail
                          refine wp_region_held_drew (S := (fun w' => Below xb.heap.size xb w')) (by kernel_rfl) ?_ (fun hHeld => ?_)
                          · exact (Below.refl _ _).drew
                          refine take_on (i := 0) (v := ?_) rfl rfl (by kernel_rfl) (by kernel_rfl) (by kernel_rfl) (fun _ _ _ h => h) rfl ?_ hHeld ?_
                          rotate_left
                          · (intro wq hSq; have hq0 := (hSq.cell (p := ⟨w2.heap.size, 0, none⟩) hlur).trans y0; have hq1 := (hSq.cell (p := ⟨w2.heap.size, 1, none⟩) hlur).trans y1; have hq2 := (hSq.cell (p := ⟨w2.heap.size, 2, none⟩) hlur).trans y2; have hq3 := (hSq.cell (p := ⟨w2.heap.size, 3, none⟩) hlur).trans y3; have hp0 := (hSq.cell (p := ⟨w.heap.size, 0, none⟩) hltr).trans t0; have hp1 := (hSq.cell (p := ⟨w.heap.size, 1, none⟩) hltr).trans t1; have hp2 := (hSq.cell (p := ⟨w.heap.size, 2, none⟩) hltr).trans t2; have hp3 := (hSq.cell (p := ⟨w.heap.size, 3, none⟩) hltr).trans t3; go_simp <;> first | with_reducible rfl | rfl)
                          simp only [Act.put, List.setIfInBounds_toArray, List.set_cons_zero, List.set_cons_succ]
                          refine take_on (i := 1) (v := ?_) rfl rfl (by kernel_rfl) (by kernel_rfl) (by kernel_rfl) (fun _ _ _ h => h) rfl ?_ hHeld ?_
                          rotate_left
                          · (intro wq hSq; have hq0 := (hSq.cell (p := ⟨w2.heap.size, 0, none⟩) hlur).trans y0; have hq1 := (hSq.cell (p := ⟨w2.heap.size, 1, none⟩) hlur).trans y1; have hq2 := (hSq.cell (p := ⟨w2.heap.size, 2, none⟩) hlur).trans y2; have hq3 := (hSq.cell (p := ⟨w2.heap.size, 3, none⟩) hlur).trans y3; have hp0 := (hSq.cell (p := ⟨w.heap.size, 0, none⟩) hltr).trans t0; have hp1 := (hSq.cell (p := ⟨w.heap.size, 1, none⟩) hltr).trans t1; have hp2 := (hSq.cell (p := ⟨w.heap.size, 2, none⟩) hltr).trans t2; have hp3 := (hSq.cell (p := ⟨w.heap.size, 3, none⟩) hltr).trans t3; go_simp <;> first | with_reducible rfl | rfl)
                          simp only [Act.put, List.setIfInBounds_toArray, List.set_cons_zero, List.set_cons_succ]
                          refine take_on (i := 3) (v := ?_) rfl rfl (by kernel_rfl) (by kernel_rfl) (by kernel_rfl) (fun _ _ _ h => h) rfl ?_ hHeld ?_
                          rotate_left
                          · (intro wq hSq; have hq0 := (hSq.cell (p := ⟨w2.heap.size, 0, none⟩) hlur).trans y0; have hq1 := (hSq.cell (p := ⟨w2.heap.size, 1, none⟩) hlur).trans y1; have hq2 := (hSq.cell (p := ⟨w2.heap.size, 2, none⟩) hlur).trans y2; have hq3 := (hSq.cell (p := ⟨w2.heap.size, 3, none⟩) hlur).trans y3; have hp0 := (hSq.cell (p := ⟨w.heap.size, 0, none⟩) hltr).trans t0; have hp1 := (hSq.cell (p := ⟨w.heap.size, 1, none⟩) hltr).trans t1; have hp2 := (hSq.cell (p := ⟨w.heap.size, 2, none⟩) hltr).trans t2; have hp3 := (hSq.cell (p := ⟨w.heap.size, 3, none⟩) hltr).trans t3; go_simp <;> first | with_reducible rfl | rfl)
                          simp only [Act.put, List.setIfInBounds_toArray, List.set_cons_zero, List.set_cons_succ]
                          refine take_on (i := 4) (v := ?_) rfl rfl (by kernel_rfl) (by kernel_rfl) (by kernel_rfl) (fun _ _ _ h => h) rfl ?_ hHeld ?_
                          rotate_left
                          · (intro wq hSq; have hq0 := (hSq.cell (p := ⟨w2.heap.size, 0, none⟩) hlur).trans y0; have hq1 := (hSq.cell (p := ⟨w2.heap.size, 1, none⟩) hlur).trans y1; have hq2 := (hSq.cell (p := ⟨w2.heap.size, 2, none⟩) hlur).trans y2; have hq3 := (hSq.cell (p := ⟨w2.heap.size, 3, none⟩) hlur).trans y3; have hp0 := (hSq.cell (p := ⟨w.heap.size, 0, none⟩) hltr).trans t0; have hp1 := (hSq.cell (p := ⟨w.heap.size, 1, none⟩) hltr).trans t1; have hp2 := (hSq.cell (p := ⟨w.heap.size, 2, none⟩) hltr).trans t2; have hp3 := (hSq.cell (p := ⟨w.heap.size, 3, none⟩) hltr).trans t3; go_simp <;> first | with_reducible rfl | rfl)
                          simp only [Act.put, List.setIfInBounds_toArray, List.set_cons_zero, List.set_cons_succ]
                          refine take_one (i := 2) rfl (by kernel_rfl) (fun K hK => ?_)
                          go_simp
                          refine (hla _ (hmr.below hHeld) (hzr.below hHeld)).mono ?_; rintro e xc ⟨⟨rc, rfl, hoc⟩, hbc⟩; obtain ⟨ac, cc, hvc, hrc, _, _, _⟩ := hoc.row; subst hvc; have hHc := hHeld.trans (hbc.mono hHeld.size)
                          try go_wp2_with fail
                          refine hK.out _ _ ?_ (fun hHeld => ?_)
                          · exact hHc
                          clear hK K
                          try simp only [Act.put, List.setIfInBounds_toArray, List.set_cons_zero, List.set_cons_succ]
                          refine take_one (i := 5) rfl (by kernel_rfl) (fun K hK => ?_)
                          go_simp
                          refine (hwa _ (hpr.below hHeld) (hzr.below hHeld)).mono ?_; rintro e xd ⟨⟨rd, rfl, hod⟩, hbd⟩; obtain ⟨ad, cd, hvd, hrd, _, _, _⟩ := hod.row; subst hvd; have hHd := hHeld.trans (hbd.mono hHeld.size); have heq := equal_any ac ad cc cd F F xd (hrc.below hbd) hrd (by unfold maxLen; omega) (by unfold maxLen; omega); rw [decide_eq_true (rfl : F = F)] at heq
                          try go_wp2_with fail
                          refine hK.out _ _ ?_ (fun hHeld => ?_)
                          · exact hHd
                          clear hK K
                          try simp only [Act.put, List.setIfInBounds_toArray, List.set_cons_zero, List.set_cons_succ]
                          refine take_one (i := 6) rfl (by kernel_rfl) (fun K hK => ?_)
                          go_simp
                          refine heq.mono ?_; rintro e xe ⟨rfl, qe, rfl⟩
                          try go_wp2_with fail
                          refine hK.out _ _ ?_ (fun hHeld => ?_)
                          · exact below_drewN hHeld qe
                          clear hK K
                          try simp only [Act.put, List.setIfInBounds_toArray, List.set_cons_zero, List.set_cons_succ]
                          refine take_on (i := 7) (v := ?_) rfl rfl (by kernel_rfl) (by kernel_rfl) (by kernel_rfl) (fun _ _ _ h => h) rfl ?_ hHeld ?_
                          rotate_left
                          · (intro wq hSq; have hq0 := (hSq.cell (p := ⟨w2.heap.size, 0, none⟩) hlur).trans y0; have hq1 := (hSq.cell (p := ⟨w2.heap.size, 1, none⟩) hlur).trans y1; have hq2 := (hSq.cell (p := ⟨w2.heap.size, 2, none⟩) hlur).trans y2; have hq3 := (hSq.cell (p := ⟨w2.heap.size, 3, none⟩) hlur).trans y3; have hp0 := (hSq.cell (p := ⟨w.heap.size, 0, none⟩) hltr).trans t0; have hp1 := (hSq.cell (p := ⟨w.heap.size, 1, none⟩) hltr).trans t1; have hp2 := (hSq.cell (p := ⟨w.heap.size, 2, none⟩) hltr).trans t2; have hp3 := (hSq.cell (p := ⟨w.heap.size, 3, none⟩) hltr).trans t3; go_simp <;> first | with_reducible rfl | rfl)
                          simp only [Act.put, List.setIfInBounds_toArray, List.set_cons_zero, List.set_cons_succ]
                          refine wpAnyH_done (by kernel_rfl) ?_ _
                          have HHE := hide_it hHeld
                          clear hla hwa hmr hzr hpr hHeld hHc hHd hoc hod hbc hbd hrc hrd heq y0 y1 y2 y3 t0 t1 t2 t3
                          go_wp2_with fail
                          go_roundw
                          case rel => exact ⟨k + 1, k, by omega, by go_num, (HHE.out.block w.heap.size hltr).trans HBT.out, HB4R.out.trans (HHE.out.mono (by omega))⟩
                          case measure => simp [intOf]; omega
    · have hd : decide ((k : Int) < 7) = false := by simp; omega
      go_wp2_with fail
      refine (fixed_all _).mono ?_
      rintro e wf ⟨rfl, hbf⟩
      go_wp2_with fail
      go_ret
      exact ⟨rfl, hbw.trans (hbf.mono hbw.size)⟩
end Go.Proofs.Ytfhinodieghklab.codecFresh
