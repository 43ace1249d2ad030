/- The law on three clocks in turns, walked. -/
import Derived.Test.YthlkegemkkepgaaCk9
namespace Go.Proofs.Ythlkegemkkepgaa.stampClock
open Go.RowKit

theorem sc_first (w : World) (w1 : World) (hb : Below w.heap.size w w1) : Sc w ((w1.alloc (.cells #[.pointer none, .pointer none, .pointer none] 25)).alloc (.cells #[.bool false, .int .i64 0, .int .i64 0, .bool false, .int .i64 0, .int .i64 0, .bool false, .int .i64 0, .int .i64 0] 28)) w1.heap.size (w1.heap.size + 1) (fun _ => noCk) (fun _ => 0) := by
  have h1 := heap_alloc_new (w1.alloc (.cells #[.pointer none, .pointer none, .pointer none] 25)) (.cells #[.bool false, .int .i64 0, .int .i64 0, .bool false, .int .i64 0, .int .i64 0, .bool false, .int .i64 0, .int .i64 0] 28)
  rw [show (w1.alloc (.cells #[.pointer none, .pointer none, .pointer none] 25)).heap.size = w1.heap.size + 1 by simp] at h1
  have hz := hb.size
  refine ⟨⟨_, by rw [Below.heap_alloc _ _ _ (by simp)]; exact heap_alloc_new w1 _, rfl, fun i hi => ?_⟩, ⟨_, h1, rfl, fun i hi => ?_⟩, (fun i hi e => by cases e), fun i hi => noCk_ok, (fun i hi e => by cases e), (fun i j hi hj hij e => by cases e), ⟨hz, by omega⟩, (hb.alloc hz _).alloc (by simp; omega) _⟩
  · match i, hi with
    | 0, _ => rfl
    | 1, _ => rfl
    | 2, _ => rfl
  · match i, hi with
    | 0, _ => exact ⟨rfl, rfl, rfl⟩
    | 1, _ => exact ⟨rfl, rfl, rfl⟩
    | 2, _ => exact ⟨rfl, rfl, rfl⟩

set_option maxRecDepth 100000 in
set_option maxHeartbeats 64000000 in
theorem walk (a : Option Addr) (n cp : Nat) (A : Nat → Opr) (w : World) (ha : CameOpr w a n A) :
    Calls Try.prog 3 #[.slice a n cp] w fun e w' => e = .returned (.bool true) ∧ Below w.heap.size w w' := by
  have hn := ha.size
  have hrow := ha.row
  have heach := hide_it ha.each
  clear ha
  go_enter Try.func3, Try.ntmps3
  go_wp2_with fail
  refine (head_any _).mono ?_
  rintro e w1 ⟨rfl, b1⟩
  have hS0 := hide_it (sc_first w w1 b1)
  clear b1
  go_wp2_with fail
  obtain ⟨W0, hW0⟩ : ∃ W0, W0 = (w1.alloc (.cells #[.pointer none, .pointer none, .pointer none] 25)).alloc (.cells #[.bool false, .int .i64 0, .int .i64 0, .bool false, .int .i64 0, .int .i64 0, .bool false, .int .i64 0, .int .i64 0] 28) := ⟨_, rfl⟩
  rw [← hW0] at hS0 ⊢
  clear hW0
  obtain ⟨h, hh⟩ : ∃ h, h = w1.heap.size := ⟨_, rfl⟩
  obtain ⟨q, hq⟩ : ∃ q, q = w1.heap.size + 1 := ⟨_, rfl⟩
  rw [← hq] at hS0 ⊢
  rw [← hh] at hS0 ⊢
  clear hh hq
  go_loopw [28] (fun i wr => ∃ (k : Nat) (C : Nat → Ck) (P : Nat → Nat), k ≤ n ∧ i = .int .i64 k ∧ Sc w wr h q C P) (fun i _ => n - (intOf i).toNat)
  case atStart => exact ⟨0, _, _, by omega, rfl, hS0.out⟩
  case round =>
    clear hS0
    obtain ⟨k, C, P, hk, rfl, hS⟩ := hrel
    by_cases hlt : k < n
    · have hki : (k : Int) < (n : Int) := by omega
      have hw1 : IntKind.i64.wrap ((k : Int) + 1) = (k : Int) + 1 := i64_in (by omega) (by omega)
      obtain ⟨b2, o2, rfl, l2, c0, c1, c2, c3⟩ := hrow.here hlt
      have d0 := (hS.bel.cell (p := ⟨b2, o2 + k * 4, none⟩) l2).trans c0
      have d1 := (hS.bel.cell (p := ⟨b2, o2 + k * 4 + 1, none⟩) l2).trans c1
      have d2 := (hS.bel.cell (p := ⟨b2, o2 + k * 4 + 2, none⟩) l2).trans c2
      have d3 := (hS.bel.cell (p := ⟨b2, o2 + k * 4 + 3, none⟩) l2).trans c3
      clear c0 c1 c2 c3 hrow
      generalize (A k).k = K at d0
      generalize (A k).i = X at d1
      generalize (A k).a = Av at d2
      generalize (A k).b = Bv at d3
      obtain ⟨hlh, hlq⟩ := hS.lt
      have hlh1 : h < wr.heap.size + 1 := by omega
      have hlq1 : q < wr.heap.size + 1 := by omega
      have hnh : ¬ h = wr.heap.size := by omega
      have hnq : ¬ q = wr.heap.size := by omega
      have HS := hide_it hS
      clear hS
      by_cases h0 : X < 0
      · as_aux_lemma =>
          obtain ⟨W2, hW2⟩ : ∃ W2, W2 = (wr.alloc (.cells #[.int .i64 K, .int .i64 X, .int .i64 Av, .int .i64 Bv] 30)).alloc (.cells #[.bool false, .int .i64 0, .int .i64 0] 27) := ⟨_, rfl⟩
          have hb2 : Below wr.heap.size wr W2 := by rw [hW2]; exact ((Below.refl _ _).alloc (Nat.le_refl _) _).alloc (by simp) _
          have hs2 : W2.heap.size = wr.heap.size + 1 + 1 := by rw [hW2]; simp
          have ho2 : W2.heap[wr.heap.size]? = some (.cells #[.int .i64 K, .int .i64 X, .int .i64 Av, .int .i64 Bv] 30 (0, 0)) := by rw [hW2, Below.heap_alloc _ _ _ (by simp)]; exact heap_alloc_new wr _
          have hx2 : W2.heap[wr.heap.size + 1]? = some (.cells #[.bool false, .int .i64 0, .int .i64 0] 27 (0, 0)) := by
            have h9 := heap_alloc_new (wr.alloc (.cells #[.int .i64 K, .int .i64 X, .int .i64 Av, .int .i64 Bv] 30)) (.cells #[.bool false, .int .i64 0, .int .i64 0] 27)
            rw [show (wr.alloc (.cells #[.int .i64 K, .int .i64 X, .int .i64 Av, .int .i64 Bv] 30)).heap.size = wr.heap.size + 1 by simp] at h9
            rw [hW2]; exact h9
          have HS2 := hide_it (HS.out.below hb2)
          have HB2 := hide_it hb2
          have HO2 := hide_it ho2
          have HX2 := hide_it hx2
          by_cases k0 : K = 0
          · subst k0
            by_cases hf : fine Av Bv
            · skip
              have hpr := new_ok Av Bv hf W2
              have hrf : ∀ z, Calls Try.prog 7 #[.int .i64 Av, .int .i64 Bv] z fun e w' => e = .returned (.tuple #[.agg #[.bool true, .int .i64 Av, .int .i64 Bv], .int .i64 0]) ∧ Below z.heap.size z w' := fun z => by
                have h9 := rnew_any Av Bv z
                rw [show newC Av Bv = ⟨true, Av, Bv⟩ by simp [newC, hf], show newE Av Bv = 0 by simp [newE, hf]] at h9
                exact h9
              have Hdk : Hid (CkOk ⟨true, Av, Bv⟩) := hide_it (by have := newC_ok Av Bv; rwa [show newC Av Bv = ⟨true, Av, Bv⟩ by simp [newC, hf]] at this)
              obtain ⟨z0, hz0⟩ : ∃ z0, z0 = W2.alloc (.cells #[.int .i64 Av, .int .i64 Bv] 59) := ⟨_, rfl⟩
              have hb3 : Below W2.heap.size W2 z0 := by rw [hz0]; exact ((Below.refl _ _).alloc (Nat.le_refl _) _)
              have hpk0 : Pk z0 W2.heap.size ⟨true, Av, Bv⟩ := fun _ => by rw [hz0]; exact heap_alloc_new W2 _
              rw [← hz0] at hpr
              clear hz0
              have f2 : W2.cell? ⟨wr.heap.size, 2, none⟩ = some (.int .i64 Av) := cell_of_row _ _ _ _ _ _ ho2
              have f3 : W2.cell? ⟨wr.heap.size, 3, none⟩ = some (.int .i64 Bv) := cell_of_row _ _ _ _ _ _ ho2
              clear hf
              go_wp2_with fail
              try rw [← hW2]
              clear hW2
              refine hpr.mono ?_
              rintro e z1 ⟨rfl, hq1⟩
              clear hpr
              rw [hq1]
              clear hq1 z1
              obtain ⟨z1, hz1⟩ : ∃ z1, z1 = z0 := ⟨_, rfl⟩
              rw [← hz1] at hb3 hpk0 ⊢
              clear hz1
              have hx3 := (hb3.block (wr.heap.size + 1) (by have := hs2; omega)).trans HX2.out
              have ho3 := (hb3.block wr.heap.size (by have := hs2; omega)).trans HO2.out
              have hs3 := HS2.out.below hb3
              have hsz1 := hb3.size
              clear f2 f3
              have f2 : z1.cell? ⟨wr.heap.size, 2, none⟩ = some (.int .i64 Av) := cell_of_row _ _ _ _ _ _ ho3
              have f3 : z1.cell? ⟨wr.heap.size, 3, none⟩ = some (.int .i64 Bv) := cell_of_row _ _ _ _ _ _ ho3
              go_wp2_with fail
              refine (hrf z1).mono ?_
              rintro e z2 ⟨rfl, hz2⟩
              clear hrf f2 f3
              have hx4 := (hz2.block (wr.heap.size + 1) (by have := hs2; omega)).trans hx3
              have hs4 := hs3.below hz2
              have hsz2 := hz2.size
              have hwb : w.heap.size ≤ wr.heap.size + 1 := by have := HS.out.bel.size; omega
              have hxn : wr.heap.size + 1 < z2.heap.size := by omega
              have hon : wr.heap.size < z2.heap.size := by omega
              have hhn : h < z2.heap.size := by omega
              have hqn : q < z2.heap.size := by omega
              have HM := hide_it hs4
              clear hs4 hx4 hx3 ho3 hz2
              go_wp2
              go_roundw
              case rel =>
                exact ⟨k + 1, _, _, by omega, by go_num, HM.out.below ((Below.refl _ _).alloc (Nat.le_refl _) _)⟩
              case measure => simp [intOf]; omega
            · skip
              have hpr := new_no Av Bv hf W2
              have hrf : ∀ z, Calls Try.prog 7 #[.int .i64 Av, .int .i64 Bv] z fun e w' => e = .returned (.tuple #[.agg #[.bool false, .int .i64 0, .int .i64 0], .int .i64 2]) ∧ Below z.heap.size z w' := fun z => by
                have h9 := rnew_any Av Bv z
                rw [show newC Av Bv = noCk by simp [newC, hf], show newE Av Bv = 2 by simp [newE, hf]] at h9
                exact h9
              have Hdk : Hid (CkOk noCk) := hide_it (noCk_ok)
              have f2 : W2.cell? ⟨wr.heap.size, 2, none⟩ = some (.int .i64 Av) := cell_of_row _ _ _ _ _ _ ho2
              have f3 : W2.cell? ⟨wr.heap.size, 3, none⟩ = some (.int .i64 Bv) := cell_of_row _ _ _ _ _ _ ho2
              clear hf
              go_wp2_with fail
              try rw [← hW2]
              clear hW2
              refine hpr.mono ?_
              rintro e z1 ⟨rfl, hq1⟩
              clear hpr
              rw [hq1]
              clear hq1 z1
              obtain ⟨z1, hz1⟩ : ∃ z1, z1 = W2 := ⟨_, rfl⟩
              have hb3 : Below W2.heap.size W2 z1 := by rw [hz1]; exact Below.refl _ _
              rw [← hz1]
              clear hz1
              have hx3 := (hb3.block (wr.heap.size + 1) (by have := hs2; omega)).trans HX2.out
              have ho3 := (hb3.block wr.heap.size (by have := hs2; omega)).trans HO2.out
              have hs3 := HS2.out.below hb3
              have hsz1 := hb3.size
              clear f2 f3
              have f2 : z1.cell? ⟨wr.heap.size, 2, none⟩ = some (.int .i64 Av) := cell_of_row _ _ _ _ _ _ ho3
              have f3 : z1.cell? ⟨wr.heap.size, 3, none⟩ = some (.int .i64 Bv) := cell_of_row _ _ _ _ _ _ ho3
              go_wp2_with fail
              refine (hrf z1).mono ?_
              rintro e z2 ⟨rfl, hz2⟩
              clear hrf f2 f3
              have hx4 := (hz2.block (wr.heap.size + 1) (by have := hs2; omega)).trans hx3
              have hs4 := hs3.below hz2
              have hsz2 := hz2.size
              have hwb : w.heap.size ≤ wr.heap.size + 1 := by have := HS.out.bel.size; omega
              have hxn : wr.heap.size + 1 < z2.heap.size := by omega
              have hon : wr.heap.size < z2.heap.size := by omega
              have hhn : h < z2.heap.size := by omega
              have hqn : q < z2.heap.size := by omega
              have HM := hide_it hs4
              clear hs4 hx4 hx3 ho3 hz2
              go_wp2
              go_roundw
              case rel =>
                exact ⟨k + 1, _, _, by omega, by go_num, HM.out.below ((Below.refl _ _).alloc (Nat.le_refl _) _)⟩
              case measure => simp [intOf]; omega
          · skip
            by_cases k1 : K = 1
            · subst k1
              have hpr : ∀ z, Below W2.heap.size W2 z → Calls Try.prog 8 #[.pointer none] z fun e w' => e = .returned (.int .i64 (0)) ∧ Below z.heap.size z w' := fun z hz => by
                refine (now_any noCk noCk_ok 0 z (fun e => by cases e)).mono ?_
                rintro e w' ⟨rfl, rfl⟩; exact ⟨rfl, Below.refl _ _⟩
              have hrf : ∀ z, Calls Try.prog 9 #[.agg #[.bool false, .int .i64 0, .int .i64 0]] z fun e w' => e = .returned (.int .i64 (0)) ∧ Below z.heap.size z w' := fun z => rnow_any noCk z
              have hbx := (Below.refl W2.heap.size W2).drew
              go_wp2_with fail
              try rw [← hW2]
              clear hW2
              refine wp_region_held_drew (S := (fun w' => w'.heap[wr.heap.size + 1]? = W2.heap[wr.heap.size + 1]?)) (by kernel_rfl) ?_ (fun hHeld => ?_)
              · rfl
              refine take_on (i := 0) (v := ?_) rfl rfl (by kernel_rfl) (by kernel_rfl) (by kernel_rfl) (fun _ _ _ h => h) rfl ?_ hHeld ?_
              rotate_left
              · (intro wq hSq; have hxq := hSq.trans HX2.out; have y0 := cell_of_row _ _ 0 _ _ _ hxq; have y1 := cell_of_row _ _ 1 _ _ _ hxq; have y2 := cell_of_row _ _ 2 _ _ _ hxq; go_simp <;> first | with_reducible rfl | rfl)
              simp only [Act.put, List.setIfInBounds_toArray, List.set_cons_zero, List.set_cons_succ]
              refine take_on (i := 2) (v := ?_) rfl rfl (by kernel_rfl) (by kernel_rfl) (by kernel_rfl) (fun _ _ _ h => h) rfl ?_ hHeld ?_
              rotate_left
              · (intro wq hSq; have hxq := hSq.trans HX2.out; have y0 := cell_of_row _ _ 0 _ _ _ hxq; have y1 := cell_of_row _ _ 1 _ _ _ hxq; have y2 := cell_of_row _ _ 2 _ _ _ hxq; go_simp <;> first | with_reducible rfl | rfl)
              simp only [Act.put, List.setIfInBounds_toArray, List.set_cons_zero, List.set_cons_succ]
              refine take_one (i := 1) rfl (by kernel_rfl) (fun K hK => ?_)
              go_simp
              (refine (hpr _ hbx).mono ?_; rintro e z1 ⟨rfl, hz1⟩; have hy1 := hbx.trans (hz1.mono (by have := hbx.size; omega)))
              try go_wp2_with fail
              refine hK.out _ _ ?_ (fun hHeld => ?_)
              · exact hy1.block _ (by have := hs2; omega)
              clear hK K
              try simp only [Act.put, List.setIfInBounds_toArray, List.set_cons_zero, List.set_cons_succ]
              refine take_one (i := 3) rfl (by kernel_rfl) (fun K hK => ?_)
              go_simp
              (refine (hrf _).mono ?_; rintro e z2 ⟨rfl, hz2⟩; have hy2 := hy1.trans (hz2.mono (by have := hy1.size; omega)))
              try go_wp2_with fail
              refine hK.out _ _ ?_ (fun hHeld => ?_)
              · exact hy2.block _ (by have := hs2; omega)
              clear hK K
              try simp only [Act.put, List.setIfInBounds_toArray, List.set_cons_zero, List.set_cons_succ]
              refine take_on (i := 4) (v := ?_) rfl rfl (by kernel_rfl) (by kernel_rfl) (by kernel_rfl) (fun _ _ _ h => h) rfl ?_ hHeld ?_
              rotate_left
              · (intro wq hSq; have hxq := hSq.trans HX2.out; have y0 := cell_of_row _ _ 0 _ _ _ hxq; have y1 := cell_of_row _ _ 1 _ _ _ hxq; have y2 := cell_of_row _ _ 2 _ _ _ hxq; go_simp <;> first | with_reducible rfl | rfl)
              simp only [Act.put, List.setIfInBounds_toArray, List.set_cons_zero, List.set_cons_succ]
              refine take_on (i := 5) (v := ?_) rfl rfl (by kernel_rfl) (by kernel_rfl) (by kernel_rfl) (fun _ _ _ h => h) rfl ?_ hHeld ?_
              rotate_left
              · (intro wq hSq; have hxq := hSq.trans HX2.out; have y0 := cell_of_row _ _ 0 _ _ _ hxq; have y1 := cell_of_row _ _ 1 _ _ _ hxq; have y2 := cell_of_row _ _ 2 _ _ _ hxq; go_simp <;> first | with_reducible rfl | rfl)
              simp only [Act.put, List.setIfInBounds_toArray, List.set_cons_zero, List.set_cons_succ]
              refine wpAnyH_done (by kernel_rfl) ?_ _
              have HZ := hide_it hy2
              clear hy1 hy2 hz1 hz2 hpr hrf hbx
              go_wp2
              go_roundw
              case rel =>
                exact ⟨k + 1, C, P, by omega, by go_num, HS2.out.below HZ.out⟩
              case measure => simp [intOf]; omega
            · skip
              by_cases k2 : K = 2
              · subst k2
                have hpr : Calls Try.prog 10 #[.pointer none] W2 fun e w' => e = .returned (.tuple #[.int .i64 0, .int .i64 1]) ∧ Ticked W2 0 noCk noCk w' := next_any noCk noCk_ok 0 W2 (fun e => by cases e)
                have hrf : ∀ z, Calls Try.prog 11 #[.agg #[.bool false, .int .i64 0, .int .i64 0]] z fun e w' => e = .returned (.tuple #[.agg #[.bool false, .int .i64 0, .int .i64 0], .int .i64 0, .int .i64 1]) ∧ Below z.heap.size z w' := rnext_any noCk noCk_ok
                have f2 : W2.cell? ⟨wr.heap.size, 2, none⟩ = some (.int .i64 Av) := cell_of_row _ _ _ _ _ _ ho2
                go_wp2_with fail
                try rw [← hW2]
                clear hW2
                refine hpr.mono ?_
                rintro e z1 ⟨rfl, htk⟩
                clear hpr
                have hb3 : Below W2.heap.size W2 z1 := htk.chg.below (fun k hk => by cases hk.1) (Nat.le_refl _)
                have hx3 := (hb3.block (wr.heap.size + 1) (by have := hs2; omega)).trans HX2.out
                have ho3 := (hb3.block wr.heap.size (by have := hs2; omega)).trans HO2.out
                have hs3 := HS2.out.below hb3
                have hsz1 := hb3.size
                have y0 : z1.cell? ⟨wr.heap.size + 1, 0, none⟩ = some (.bool false) := cell_of_row _ _ _ _ _ _ hx3
                have y1 : z1.cell? ⟨wr.heap.size + 1, 1, none⟩ = some (.int .i64 0) := cell_of_row _ _ _ _ _ _ hx3
                have y2 : z1.cell? ⟨wr.heap.size + 1, 2, none⟩ = some (.int .i64 0) := cell_of_row _ _ _ _ _ _ hx3
                have f3 : z1.cell? ⟨wr.heap.size, 2, none⟩ = some (.int .i64 Av) := cell_of_row _ _ _ _ _ _ ho3
                clear htk f2
                go_wp2_with fail
                refine (hrf z1).mono ?_
                rintro e z2 ⟨rfl, hz2⟩
                clear hrf y0 y1 y2 f3
                have hx4 := (hz2.block (wr.heap.size + 1) (by have := hs2; omega)).trans hx3
                have hs4 := hs3.below hz2
                have hsz2 := hz2.size
                have hwb : w.heap.size ≤ wr.heap.size + 1 := by have := HS.out.bel.size; omega
                have hxn : wr.heap.size + 1 < z2.heap.size := by omega
                have hon : wr.heap.size < z2.heap.size := by omega
                have hhn : h < z2.heap.size := by omega
                have hqn : q < z2.heap.size := by omega
                have y0 : z2.cell? ⟨wr.heap.size + 1, 0, none⟩ = some (.bool false) := cell_of_row _ _ _ _ _ _ hx4
                have y1 : z2.cell? ⟨wr.heap.size + 1, 1, none⟩ = some (.int .i64 0) := cell_of_row _ _ _ _ _ _ hx4
                have y2 : z2.cell? ⟨wr.heap.size + 1, 2, none⟩ = some (.int .i64 0) := cell_of_row _ _ _ _ _ _ hx4
                have y5 : ∀ j, z2.frozen? ⟨wr.heap.size + 1, j, none⟩ = false := fun j => frozen_of_row _ _ _ _ _ hx4
                have t1 := heap_setCell_same _ (wr.heap.size + 1) 0 _ _ (.bool false) hx4
                have t2 := heap_setCell_same _ (wr.heap.size + 1) 1 _ _ (.int .i64 0) t1
                have HM := hide_it (((hs4.box hwb hx4 0 (.bool false)).box hwb t1 1 (.int .i64 0)).box hwb t2 2 (.int .i64 0))
                clear hs4 t1 t2 hx4 hx3 ho3 hz2
                go_wp2
                go_roundw
                case rel =>
                  exact ⟨k + 1, _, _, by omega, by go_num, HM.out.below ((Below.refl _ _).alloc (Nat.le_refl _) _)⟩
                case measure => simp [intOf]; omega
              · skip
                by_cases k3 : K = 3
                · subst k3
                  have hpr : ∀ z, Below W2.heap.size W2 z → Calls Try.prog 12 #[.pointer none] z fun e w' => e = .returned (.bool (worn noCk)) ∧ Below z.heap.size z w' := fun z hz => by
                    refine (worn_any noCk noCk_ok 0 z (fun e => by cases e)).mono ?_
                    rintro e w' ⟨rfl, rfl⟩; exact ⟨rfl, Below.refl _ _⟩
                  have hrf : ∀ z, Calls Try.prog 13 #[.agg #[.bool false, .int .i64 0, .int .i64 0]] z fun e w' => e = .returned (.bool (worn noCk)) ∧ Below z.heap.size z w' := fun z => rworn_any noCk noCk_ok z
                  have hbx := (Below.refl W2.heap.size W2).drew
                  go_wp2_with fail
                  try rw [← hW2]
                  clear hW2
                  refine wp_region_held_drew (S := (fun w' => w'.heap[wr.heap.size + 1]? = W2.heap[wr.heap.size + 1]?)) (by kernel_rfl) ?_ (fun hHeld => ?_)
                  · rfl
                  refine take_on (i := 0) (v := ?_) rfl rfl (by kernel_rfl) (by kernel_rfl) (by kernel_rfl) (fun _ _ _ h => h) rfl ?_ hHeld ?_
                  rotate_left
                  · (intro wq hSq; have hxq := hSq.trans HX2.out; have y0 := cell_of_row _ _ 0 _ _ _ hxq; have y1 := cell_of_row _ _ 1 _ _ _ hxq; have y2 := cell_of_row _ _ 2 _ _ _ hxq; go_simp <;> first | with_reducible rfl | rfl)
                  simp only [Act.put, List.setIfInBounds_toArray, List.set_cons_zero, List.set_cons_succ]
                  refine take_on (i := 2) (v := ?_) rfl rfl (by kernel_rfl) (by kernel_rfl) (by kernel_rfl) (fun _ _ _ h => h) rfl ?_ hHeld ?_
                  rotate_left
                  · (intro wq hSq; have hxq := hSq.trans HX2.out; have y0 := cell_of_row _ _ 0 _ _ _ hxq; have y1 := cell_of_row _ _ 1 _ _ _ hxq; have y2 := cell_of_row _ _ 2 _ _ _ hxq; go_simp <;> first | with_reducible rfl | rfl)
                  simp only [Act.put, List.setIfInBounds_toArray, List.set_cons_zero, List.set_cons_succ]
                  refine take_one (i := 1) rfl (by kernel_rfl) (fun K hK => ?_)
                  go_simp
                  (refine (hpr _ hbx).mono ?_; rintro e z1 ⟨rfl, hz1⟩; have hy1 := hbx.trans (hz1.mono (by have := hbx.size; omega)))
                  try go_wp2_with fail
                  refine hK.out _ _ ?_ (fun hHeld => ?_)
                  · exact hy1.block _ (by have := hs2; omega)
                  clear hK K
                  try simp only [Act.put, List.setIfInBounds_toArray, List.set_cons_zero, List.set_cons_succ]
                  refine take_one (i := 3) rfl (by kernel_rfl) (fun K hK => ?_)
                  go_simp
                  (refine (hrf _).mono ?_; rintro e z2 ⟨rfl, hz2⟩; have hy2 := hy1.trans (hz2.mono (by have := hy1.size; omega)))
                  try go_wp2_with fail
                  refine hK.out _ _ ?_ (fun hHeld => ?_)
                  · exact hy2.block _ (by have := hs2; omega)
                  clear hK K
                  try simp only [Act.put, List.setIfInBounds_toArray, List.set_cons_zero, List.set_cons_succ]
                  refine take_on (i := 4) (v := ?_) rfl rfl (by kernel_rfl) (by kernel_rfl) (by kernel_rfl) (fun _ _ _ h => h) rfl ?_ hHeld ?_
                  rotate_left
                  · (intro wq hSq; have hxq := hSq.trans HX2.out; have y0 := cell_of_row _ _ 0 _ _ _ hxq; have y1 := cell_of_row _ _ 1 _ _ _ hxq; have y2 := cell_of_row _ _ 2 _ _ _ hxq; go_simp <;> first | with_reducible rfl | rfl)
                  simp only [Act.put, List.setIfInBounds_toArray, List.set_cons_zero, List.set_cons_succ]
                  refine take_on (i := 5) (v := ?_) rfl rfl (by kernel_rfl) (by kernel_rfl) (by kernel_rfl) (fun _ _ _ h => h) rfl ?_ hHeld ?_
                  rotate_left
                  · (intro wq hSq; have hxq := hSq.trans HX2.out; have y0 := cell_of_row _ _ 0 _ _ _ hxq; have y1 := cell_of_row _ _ 1 _ _ _ hxq; have y2 := cell_of_row _ _ 2 _ _ _ hxq; go_simp <;> first | with_reducible rfl | rfl)
                  simp only [Act.put, List.setIfInBounds_toArray, List.set_cons_zero, List.set_cons_succ]
                  refine wpAnyH_done (by kernel_rfl) ?_ _
                  have HZ := hide_it hy2
                  clear hy1 hy2 hz1 hz2 hpr hrf hbx
                  go_wp2
                  go_roundw
                  case rel =>
                    exact ⟨k + 1, C, P, by omega, by go_num, HS2.out.below HZ.out⟩
                  case measure => simp [intOf]; omega
                · skip
                  by_cases k4 : K = 4
                  · subst k4
                    have hpr : Calls Try.prog 14 #[.pointer none, .int .i64 Av] W2 fun e w' => e = .returned (.int .i64 1) ∧ Ticked W2 0 noCk noCk w' := set_any noCk 0 Av W2 (fun e => by cases e)
                    have hrf : ∀ z, Calls Try.prog 15 #[.agg #[.bool false, .int .i64 0, .int .i64 0], .int .i64 Av] z fun e w' => e = .returned (.tuple #[.agg #[.bool false, .int .i64 0, .int .i64 0], .int .i64 1]) ∧ Below z.heap.size z w' := rset_any noCk Av
                    have f2 : W2.cell? ⟨wr.heap.size, 2, none⟩ = some (.int .i64 Av) := cell_of_row _ _ _ _ _ _ ho2
                    go_wp2_with fail
                    try rw [← hW2]
                    clear hW2
                    refine hpr.mono ?_
                    rintro e z1 ⟨rfl, htk⟩
                    clear hpr
                    have hb3 : Below W2.heap.size W2 z1 := htk.chg.below (fun k hk => by cases hk.1) (Nat.le_refl _)
                    have hx3 := (hb3.block (wr.heap.size + 1) (by have := hs2; omega)).trans HX2.out
                    have ho3 := (hb3.block wr.heap.size (by have := hs2; omega)).trans HO2.out
                    have hs3 := HS2.out.below hb3
                    have hsz1 := hb3.size
                    have y0 : z1.cell? ⟨wr.heap.size + 1, 0, none⟩ = some (.bool false) := cell_of_row _ _ _ _ _ _ hx3
                    have y1 : z1.cell? ⟨wr.heap.size + 1, 1, none⟩ = some (.int .i64 0) := cell_of_row _ _ _ _ _ _ hx3
                    have y2 : z1.cell? ⟨wr.heap.size + 1, 2, none⟩ = some (.int .i64 0) := cell_of_row _ _ _ _ _ _ hx3
                    have f3 : z1.cell? ⟨wr.heap.size, 2, none⟩ = some (.int .i64 Av) := cell_of_row _ _ _ _ _ _ ho3
                    clear htk f2
                    go_wp2_with fail
                    refine (hrf z1).mono ?_
                    rintro e z2 ⟨rfl, hz2⟩
                    clear hrf y0 y1 y2 f3
                    have hx4 := (hz2.block (wr.heap.size + 1) (by have := hs2; omega)).trans hx3
                    have hs4 := hs3.below hz2
                    have hsz2 := hz2.size
                    have hwb : w.heap.size ≤ wr.heap.size + 1 := by have := HS.out.bel.size; omega
                    have hxn : wr.heap.size + 1 < z2.heap.size := by omega
                    have hon : wr.heap.size < z2.heap.size := by omega
                    have hhn : h < z2.heap.size := by omega
                    have hqn : q < z2.heap.size := by omega
                    have y0 : z2.cell? ⟨wr.heap.size + 1, 0, none⟩ = some (.bool false) := cell_of_row _ _ _ _ _ _ hx4
                    have y1 : z2.cell? ⟨wr.heap.size + 1, 1, none⟩ = some (.int .i64 0) := cell_of_row _ _ _ _ _ _ hx4
                    have y2 : z2.cell? ⟨wr.heap.size + 1, 2, none⟩ = some (.int .i64 0) := cell_of_row _ _ _ _ _ _ hx4
                    have y5 : ∀ j, z2.frozen? ⟨wr.heap.size + 1, j, none⟩ = false := fun j => frozen_of_row _ _ _ _ _ hx4
                    have t1 := heap_setCell_same _ (wr.heap.size + 1) 0 _ _ (.bool false) hx4
                    have t2 := heap_setCell_same _ (wr.heap.size + 1) 1 _ _ (.int .i64 0) t1
                    have HM := hide_it (((hs4.box hwb hx4 0 (.bool false)).box hwb t1 1 (.int .i64 0)).box hwb t2 2 (.int .i64 0))
                    clear hs4 t1 t2 hx4 hx3 ho3 hz2
                    go_wp2
                    go_roundw
                    case rel =>
                      exact ⟨k + 1, _, _, by omega, by go_num, HM.out.below ((Below.refl _ _).alloc (Nat.le_refl _) _)⟩
                    case measure => simp [intOf]; omega
                  · skip
                    by_cases k5 : K = 5
                    · subst k5
                      have hpr : ∀ z, Below W2.heap.size W2 z → Calls Try.prog 16 #[.pointer none] z fun e w' => e = .returned (.int .i64 (0 - 0)) ∧ Below z.heap.size z w' := fun z hz => by
                        refine (horizon_any noCk noCk_ok 0 z (fun e => by cases e)).mono ?_
                        rintro e w' ⟨rfl, h⟩; exact ⟨rfl, h⟩
                      have hrf : ∀ z, Calls Try.prog 17 #[.agg #[.bool false, .int .i64 0, .int .i64 0]] z fun e w' => e = .returned (.int .i64 (0 - 0)) ∧ Below z.heap.size z w' := fun z => rhorizon_any noCk noCk_ok z
                      have hbx := (Below.refl W2.heap.size W2).drew
                      go_wp2_with fail
                      try rw [← hW2]
                      clear hW2
                      refine wp_region_held_drew (S := (fun w' => w'.heap[wr.heap.size + 1]? = W2.heap[wr.heap.size + 1]?)) (by kernel_rfl) ?_ (fun hHeld => ?_)
                      · rfl
                      refine take_on (i := 0) (v := ?_) rfl rfl (by kernel_rfl) (by kernel_rfl) (by kernel_rfl) (fun _ _ _ h => h) rfl ?_ hHeld ?_
                      rotate_left
                      · (intro wq hSq; have hxq := hSq.trans HX2.out; have y0 := cell_of_row _ _ 0 _ _ _ hxq; have y1 := cell_of_row _ _ 1 _ _ _ hxq; have y2 := cell_of_row _ _ 2 _ _ _ hxq; go_simp <;> first | with_reducible rfl | rfl)
                      simp only [Act.put, List.setIfInBounds_toArray, List.set_cons_zero, List.set_cons_succ]
                      refine take_on (i := 2) (v := ?_) rfl rfl (by kernel_rfl) (by kernel_rfl) (by kernel_rfl) (fun _ _ _ h => h) rfl ?_ hHeld ?_
                      rotate_left
                      · (intro wq hSq; have hxq := hSq.trans HX2.out; have y0 := cell_of_row _ _ 0 _ _ _ hxq; have y1 := cell_of_row _ _ 1 _ _ _ hxq; have y2 := cell_of_row _ _ 2 _ _ _ hxq; go_simp <;> first | with_reducible rfl | rfl)
                      simp only [Act.put, List.setIfInBounds_toArray, List.set_cons_zero, List.set_cons_succ]
                      refine take_one (i := 1) rfl (by kernel_rfl) (fun K hK => ?_)
                      go_simp
                      (refine (hpr _ hbx).mono ?_; rintro e z1 ⟨rfl, hz1⟩; have hy1 := hbx.trans (hz1.mono (by have := hbx.size; omega)))
                      try go_wp2_with fail
                      refine hK.out _ _ ?_ (fun hHeld => ?_)
                      · exact hy1.block _ (by have := hs2; omega)
                      clear hK K
                      try simp only [Act.put, List.setIfInBounds_toArray, List.set_cons_zero, List.set_cons_succ]
                      refine take_one (i := 3) rfl (by kernel_rfl) (fun K hK => ?_)
                      go_simp
                      (refine (hrf _).mono ?_; rintro e z2 ⟨rfl, hz2⟩; have hy2 := hy1.trans (hz2.mono (by have := hy1.size; omega)))
                      try go_wp2_with fail
                      refine hK.out _ _ ?_ (fun hHeld => ?_)
                      · exact hy2.block _ (by have := hs2; omega)
                      clear hK K
                      try simp only [Act.put, List.setIfInBounds_toArray, List.set_cons_zero, List.set_cons_succ]
                      refine take_on (i := 4) (v := ?_) rfl rfl (by kernel_rfl) (by kernel_rfl) (by kernel_rfl) (fun _ _ _ h => h) rfl ?_ hHeld ?_
                      rotate_left
                      · (intro wq hSq; have hxq := hSq.trans HX2.out; have y0 := cell_of_row _ _ 0 _ _ _ hxq; have y1 := cell_of_row _ _ 1 _ _ _ hxq; have y2 := cell_of_row _ _ 2 _ _ _ hxq; go_simp <;> first | with_reducible rfl | rfl)
                      simp only [Act.put, List.setIfInBounds_toArray, List.set_cons_zero, List.set_cons_succ]
                      refine take_on (i := 5) (v := ?_) rfl rfl (by kernel_rfl) (by kernel_rfl) (by kernel_rfl) (fun _ _ _ h => h) rfl ?_ hHeld ?_
                      rotate_left
                      · (intro wq hSq; have hxq := hSq.trans HX2.out; have y0 := cell_of_row _ _ 0 _ _ _ hxq; have y1 := cell_of_row _ _ 1 _ _ _ hxq; have y2 := cell_of_row _ _ 2 _ _ _ hxq; go_simp <;> first | with_reducible rfl | rfl)
                      simp only [Act.put, List.setIfInBounds_toArray, List.set_cons_zero, List.set_cons_succ]
                      refine wpAnyH_done (by kernel_rfl) ?_ _
                      have HZ := hide_it hy2
                      clear hy1 hy2 hz1 hz2 hpr hrf hbx
                      go_wp2
                      go_roundw
                      case rel =>
                        exact ⟨k + 1, C, P, by omega, by go_num, HS2.out.below HZ.out⟩
                      case measure => simp [intOf]; omega
                    · skip
                      have n0 : (K == 0) = false := by simpa using k0
                      have n1 : (K == 1) = false := by simpa using k1
                      have n2 : (K == 2) = false := by simpa using k2
                      have n3 : (K == 3) = false := by simpa using k3
                      have n4 : (K == 4) = false := by simpa using k4
                      have n5 : (K == 5) = false := by simpa using k5
                      clear k0 k1 k2 k3 k4 k5
                      clear hW2
                      go_wp2
                      go_roundw
                      case rel =>
                        exact ⟨k + 1, C, P, by omega, by go_num, HS.out.below (((Below.refl _ _).alloc (Nat.le_refl _) _).alloc (by simp) _)⟩
                      case measure => simp [intOf]; omega
      · by_cases h3 : X < 3
        · obtain ⟨i, rfl⟩ : ∃ i : Nat, X = (i : Int) := ⟨X.toNat, by omega⟩
          have hi : i < 3 := by omega
          obtain ⟨x0, x1, x2, x3, x4, x5⟩ := HS.out.cells hi
          have Hok := hide_it (HS.out.ok i hi)
          have Hpk := hide_it (HS.out.pk i hi)
          obtain ⟨c, hc⟩ : ∃ c, c = C i := ⟨_, rfl⟩
          obtain ⟨p, hp⟩ : ∃ p, p = P i := ⟨_, rfl⟩
          rw [← hc] at x0 x1 x2 x3 Hok Hpk
          rw [← hp] at x0 Hpk
          obtain ⟨pp, hV⟩ : ∃ pp, Value.pointer pp = ptrK c p := ⟨_, rfl⟩
          rw [← hV] at x0
          have HV := hide_it hV
          have HC := hide_it hc
          have HP := hide_it hp
          clear hc hp hV
          as_aux_lemma =>
            obtain ⟨W2, hW2⟩ : ∃ W2, W2 = (wr.alloc (.cells #[.int .i64 K, .int .i64 (i : Int), .int .i64 Av, .int .i64 Bv] 30)).alloc (.cells #[.bool c.t, .int .i64 c.n, .int .i64 c.k] 27) := ⟨_, rfl⟩
            have hb2 : Below wr.heap.size wr W2 := by rw [hW2]; exact ((Below.refl _ _).alloc (Nat.le_refl _) _).alloc (by simp) _
            have hs2 : W2.heap.size = wr.heap.size + 1 + 1 := by rw [hW2]; simp
            have ho2 : W2.heap[wr.heap.size]? = some (.cells #[.int .i64 K, .int .i64 (i : Int), .int .i64 Av, .int .i64 Bv] 30 (0, 0)) := by rw [hW2, Below.heap_alloc _ _ _ (by simp)]; exact heap_alloc_new wr _
            have hx2 : W2.heap[wr.heap.size + 1]? = some (.cells #[.bool c.t, .int .i64 c.n, .int .i64 c.k] 27 (0, 0)) := by
              have h9 := heap_alloc_new (wr.alloc (.cells #[.int .i64 K, .int .i64 (i : Int), .int .i64 Av, .int .i64 Bv] 30)) (.cells #[.bool c.t, .int .i64 c.n, .int .i64 c.k] 27)
              rw [show (wr.alloc (.cells #[.int .i64 K, .int .i64 (i : Int), .int .i64 Av, .int .i64 Bv] 30)).heap.size = wr.heap.size + 1 by simp] at h9
              rw [hW2]; exact h9
            have HS2 := hide_it (HS.out.below hb2)
            have HB2 := hide_it hb2
            have HO2 := hide_it ho2
            have HX2 := hide_it hx2
            by_cases k0 : K = 0
            · subst k0
              by_cases hf : fine Av Bv
              · skip
                have hpr := new_ok Av Bv hf W2
                have hrf : ∀ z, Calls Try.prog 7 #[.int .i64 Av, .int .i64 Bv] z fun e w' => e = .returned (.tuple #[.agg #[.bool true, .int .i64 Av, .int .i64 Bv], .int .i64 0]) ∧ Below z.heap.size z w' := fun z => by
                  have h9 := rnew_any Av Bv z
                  rw [show newC Av Bv = ⟨true, Av, Bv⟩ by simp [newC, hf], show newE Av Bv = 0 by simp [newE, hf]] at h9
                  exact h9
                have Hdk : Hid (CkOk ⟨true, Av, Bv⟩) := hide_it (by have := newC_ok Av Bv; rwa [show newC Av Bv = ⟨true, Av, Bv⟩ by simp [newC, hf]] at this)
                obtain ⟨z0, hz0⟩ : ∃ z0, z0 = W2.alloc (.cells #[.int .i64 Av, .int .i64 Bv] 59) := ⟨_, rfl⟩
                have hb3 : Below W2.heap.size W2 z0 := by rw [hz0]; exact ((Below.refl _ _).alloc (Nat.le_refl _) _)
                have hpk0 : Pk z0 W2.heap.size ⟨true, Av, Bv⟩ := fun _ => by rw [hz0]; exact heap_alloc_new W2 _
                rw [← hz0] at hpr
                clear hz0
                have f2 : W2.cell? ⟨wr.heap.size, 2, none⟩ = some (.int .i64 Av) := cell_of_row _ _ _ _ _ _ ho2
                have f3 : W2.cell? ⟨wr.heap.size, 3, none⟩ = some (.int .i64 Bv) := cell_of_row _ _ _ _ _ _ ho2
                clear hf
                go_wp2_with fail
                try rw [← hW2]
                clear hW2
                refine hpr.mono ?_
                rintro e z1 ⟨rfl, hq1⟩
                clear hpr
                rw [hq1]
                clear hq1 z1
                obtain ⟨z1, hz1⟩ : ∃ z1, z1 = z0 := ⟨_, rfl⟩
                rw [← hz1] at hb3 hpk0 ⊢
                clear hz1
                have hx3 := (hb3.block (wr.heap.size + 1) (by have := hs2; omega)).trans HX2.out
                have ho3 := (hb3.block wr.heap.size (by have := hs2; omega)).trans HO2.out
                have hs3 := HS2.out.below hb3
                have hsz1 := hb3.size
                clear f2 f3
                have f2 : z1.cell? ⟨wr.heap.size, 2, none⟩ = some (.int .i64 Av) := cell_of_row _ _ _ _ _ _ ho3
                have f3 : z1.cell? ⟨wr.heap.size, 3, none⟩ = some (.int .i64 Bv) := cell_of_row _ _ _ _ _ _ ho3
                go_wp2_with fail
                refine (hrf z1).mono ?_
                rintro e z2 ⟨rfl, hz2⟩
                clear hrf f2 f3
                have hx4 := (hz2.block (wr.heap.size + 1) (by have := hs2; omega)).trans hx3
                have hs4 := hs3.below hz2
                have hpk4 := hpk0.below hz2
                have hm2 : Mid w (z2.setCell ⟨h, i, none⟩ (.pointer (some ⟨W2.heap.size, 0, none⟩))) h q C (put3 C i ⟨true, Av, Bv⟩) (put3 P i W2.heap.size) :=
                  hs4.midNew hi Hdk.out hpk4 (by have := HS2.out.bel.size; omega) (fun _ j hj hjt => by have := (HS.out.pk j hj).lt hjt; omega)
                have hsz2 := hz2.size
                have hwb : w.heap.size ≤ wr.heap.size + 1 := by have := HS.out.bel.size; omega
                have hxn : wr.heap.size + 1 < z2.heap.size := by omega
                have hon : wr.heap.size < z2.heap.size := by omega
                have hhn : h < z2.heap.size := by omega
                have hqn : q < z2.heap.size := by omega
                have g1 : z2.cell? ⟨wr.heap.size, 1, none⟩ = some (.int .i64 (i : Int)) := cell_of_row _ _ _ _ _ _ ((hz2.block wr.heap.size (by have := hs2; omega)).trans ho3)
                have hnh1 : ¬ h = wr.heap.size + 1 := by omega
                have hnh3 : ¬ wr.heap.size + 1 = h := by omega
                have hnh2 : ¬ wr.heap.size = h := by omega
                have hqh : ¬ q = h := fun e => by
                  obtain ⟨_, e1, _⟩ := HS.out.hb
                  obtain ⟨_, e2, _⟩ := HS.out.qb
                  rw [← e, e2] at e1; cases e1
                obtain ⟨u0, u1, u2, u3, u4, u5⟩ := hs4.cells hi
                have hx5 : (z2.setCell ⟨h, i, none⟩ (.pointer (some ⟨W2.heap.size, 0, none⟩))).heap[wr.heap.size + 1]? = _ := (Below.heap_setCell _ _ _ _ (by show wr.heap.size + 1 ≠ h; omega)).trans hx4
                have y0 : z2.cell? ⟨wr.heap.size + 1, 0, none⟩ = some (.bool c.t) := cell_of_row _ _ _ _ _ _ hx4
                have y1 : z2.cell? ⟨wr.heap.size + 1, 1, none⟩ = some (.int .i64 c.n) := cell_of_row _ _ _ _ _ _ hx4
                have y2 : z2.cell? ⟨wr.heap.size + 1, 2, none⟩ = some (.int .i64 c.k) := cell_of_row _ _ _ _ _ _ hx4
                have y5 : ∀ j, z2.frozen? ⟨wr.heap.size + 1, j, none⟩ = false := fun j => frozen_of_row _ _ _ _ _ hx4
                have t1 := heap_setCell_same _ (wr.heap.size + 1) 0 _ _ (.bool true) hx5
                have t2 := heap_setCell_same _ (wr.heap.size + 1) 1 _ _ (.int .i64 Av) t1
                have t3 := heap_setCell_same _ (wr.heap.size + 1) 2 _ _ (.int .i64 Bv) t2
                have HMz := hide_it ((((hm2.box hwb hx5 0 (.bool true)).box hwb t1 1 (.int .i64 Av)).box hwb t2 2 (.int .i64 Bv)).below ((Below.refl _ _).alloc (Nat.le_refl _) (.cells #[.bool true, .int .i64 Av, .int .i64 Bv] 27)))
                skip
                try dsimp only at HMz
                rw [hs2] at HMz t3
                have HT3 := hide_it t3
                have HO4 := hide_it ((hz2.block wr.heap.size (by have := hs2; omega)).trans ho3)
                clear hm2 t1 t2 t3 hx5 hpk4
                have HX4 := hide_it hx4
                clear hx4 hx3 ho3 hz2
                dsimp only
                iterate 124 (first | go_step | skip)
                obtain ⟨Z5, hZ5⟩ : ∃ Z5, Z5 = ((((z2.setCell ⟨h, i, none⟩ (.pointer (some ⟨wr.heap.size + 1 + 1, 0, none⟩))).setCell ⟨wr.heap.size + 1, 0, none⟩ (.bool true)).setCell ⟨wr.heap.size + 1, 1, none⟩ (.int .i64 Av)).setCell ⟨wr.heap.size + 1, 2, none⟩ (.int .i64 Bv)).alloc (.cells #[.bool true, .int .i64 Av, .int .i64 Bv] 27) := ⟨_, rfl⟩
                rw [← hZ5] at HMz ⊢
                have E1 : Z5.heap[wr.heap.size]? = some (.cells #[.int .i64 0, .int .i64 (i : Int), .int .i64 Av, .int .i64 Bv] 30 (0, 0)) := by
                  rw [hZ5, Below.heap_alloc _ _ _ (by simp; omega), Below.heap_setCell _ _ _ _ (by show wr.heap.size ≠ wr.heap.size + 1; omega), Below.heap_setCell _ _ _ _ (by show wr.heap.size ≠ wr.heap.size + 1; omega), Below.heap_setCell _ _ _ _ (by show wr.heap.size ≠ wr.heap.size + 1; omega), Below.heap_setCell _ _ _ _ (by show wr.heap.size ≠ h; omega)]
                  exact HO4.out
                have E2 : Z5.heap[wr.heap.size + 1]? = some (.cells #[.bool true, .int .i64 Av, .int .i64 Bv] 27 (0, 0)) := by
                  rw [hZ5, Below.heap_alloc _ _ _ (by simp; omega)]
                  exact HT3.out
                have hz5 : z2.heap.size < Z5.heap.size := by rw [hZ5]; simp
                clear hZ5 g1 y0 y1 y2 y5 u0 u1 u2 u3 u4 u5
                obtain ⟨cq, eqq, zq, rq⟩ := HMz.out.qb
                obtain ⟨v0, v1, v2⟩ := rq i hi
                have u1 := (cell_of_row _ _ (i * 3) _ _ _ eqq).trans v0
                have u2 := (cell_of_row _ _ (i * 3 + 1) _ _ _ eqq).trans v1
                have u3 := (cell_of_row _ _ (i * 3 + 2) _ _ _ eqq).trans v2
                have u5 : ∀ j, Z5.frozen? ⟨q, j, none⟩ = false := fun j => frozen_of_row _ _ _ _ _ eqq
                clear eqq zq rq v0 v1 v2
                have g1 : Z5.cell? ⟨wr.heap.size, 1, none⟩ = some (.int .i64 (i : Int)) := cell_of_row _ _ _ _ _ _ E1
                have y0 : Z5.cell? ⟨wr.heap.size + 1, 0, none⟩ = some (.bool true) := cell_of_row _ _ _ _ _ _ E2
                have y1 : Z5.cell? ⟨wr.heap.size + 1, 1, none⟩ = some (.int .i64 Av) := cell_of_row _ _ _ _ _ _ E2
                have y2 : Z5.cell? ⟨wr.heap.size + 1, 2, none⟩ = some (.int .i64 Bv) := cell_of_row _ _ _ _ _ _ E2
                have HM := hide_it (HMz.out.write hi)
                try dsimp only at HM
                clear E1 E2
                go_wp2
                go_roundw
                case rel =>
                  exact ⟨k + 1, _, _, by omega, by go_num, HM.out⟩
                case measure => simp [intOf]; omega
              · skip
                have hpr := new_no Av Bv hf W2
                have hrf : ∀ z, Calls Try.prog 7 #[.int .i64 Av, .int .i64 Bv] z fun e w' => e = .returned (.tuple #[.agg #[.bool false, .int .i64 0, .int .i64 0], .int .i64 2]) ∧ Below z.heap.size z w' := fun z => by
                  have h9 := rnew_any Av Bv z
                  rw [show newC Av Bv = noCk by simp [newC, hf], show newE Av Bv = 2 by simp [newE, hf]] at h9
                  exact h9
                have Hdk : Hid (CkOk noCk) := hide_it (noCk_ok)
                have f2 : W2.cell? ⟨wr.heap.size, 2, none⟩ = some (.int .i64 Av) := cell_of_row _ _ _ _ _ _ ho2
                have f3 : W2.cell? ⟨wr.heap.size, 3, none⟩ = some (.int .i64 Bv) := cell_of_row _ _ _ _ _ _ ho2
                clear hf
                go_wp2_with fail
                try rw [← hW2]
                clear hW2
                refine hpr.mono ?_
                rintro e z1 ⟨rfl, hq1⟩
                clear hpr
                rw [hq1]
                clear hq1 z1
                obtain ⟨z1, hz1⟩ : ∃ z1, z1 = W2 := ⟨_, rfl⟩
                have hb3 : Below W2.heap.size W2 z1 := by rw [hz1]; exact Below.refl _ _
                rw [← hz1]
                clear hz1
                have hx3 := (hb3.block (wr.heap.size + 1) (by have := hs2; omega)).trans HX2.out
                have ho3 := (hb3.block wr.heap.size (by have := hs2; omega)).trans HO2.out
                have hs3 := HS2.out.below hb3
                have hsz1 := hb3.size
                clear f2 f3
                have f2 : z1.cell? ⟨wr.heap.size, 2, none⟩ = some (.int .i64 Av) := cell_of_row _ _ _ _ _ _ ho3
                have f3 : z1.cell? ⟨wr.heap.size, 3, none⟩ = some (.int .i64 Bv) := cell_of_row _ _ _ _ _ _ ho3
                go_wp2_with fail
                refine (hrf z1).mono ?_
                rintro e z2 ⟨rfl, hz2⟩
                clear hrf f2 f3
                have hx4 := (hz2.block (wr.heap.size + 1) (by have := hs2; omega)).trans hx3
                have hs4 := hs3.below hz2
                have hm2 : Mid w (z2.setCell ⟨h, i, none⟩ (.pointer none)) h q C (put3 C i noCk) (put3 P i w.heap.size) :=
                  hs4.midNew hi Hdk.out (fun e => by cases e) (Nat.le_refl _) (fun e => by cases e)
                have hsz2 := hz2.size
                have hwb : w.heap.size ≤ wr.heap.size + 1 := by have := HS.out.bel.size; omega
                have hxn : wr.heap.size + 1 < z2.heap.size := by omega
                have hon : wr.heap.size < z2.heap.size := by omega
                have hhn : h < z2.heap.size := by omega
                have hqn : q < z2.heap.size := by omega
                have g1 : z2.cell? ⟨wr.heap.size, 1, none⟩ = some (.int .i64 (i : Int)) := cell_of_row _ _ _ _ _ _ ((hz2.block wr.heap.size (by have := hs2; omega)).trans ho3)
                have hnh1 : ¬ h = wr.heap.size + 1 := by omega
                have hnh3 : ¬ wr.heap.size + 1 = h := by omega
                have hnh2 : ¬ wr.heap.size = h := by omega
                have hqh : ¬ q = h := fun e => by
                  obtain ⟨_, e1, _⟩ := HS.out.hb
                  obtain ⟨_, e2, _⟩ := HS.out.qb
                  rw [← e, e2] at e1; cases e1
                obtain ⟨u0, u1, u2, u3, u4, u5⟩ := hs4.cells hi
                have hx5 : (z2.setCell ⟨h, i, none⟩ (.pointer none)).heap[wr.heap.size + 1]? = _ := (Below.heap_setCell _ _ _ _ (by show wr.heap.size + 1 ≠ h; omega)).trans hx4
                have y0 : z2.cell? ⟨wr.heap.size + 1, 0, none⟩ = some (.bool c.t) := cell_of_row _ _ _ _ _ _ hx4
                have y1 : z2.cell? ⟨wr.heap.size + 1, 1, none⟩ = some (.int .i64 c.n) := cell_of_row _ _ _ _ _ _ hx4
                have y2 : z2.cell? ⟨wr.heap.size + 1, 2, none⟩ = some (.int .i64 c.k) := cell_of_row _ _ _ _ _ _ hx4
                have y5 : ∀ j, z2.frozen? ⟨wr.heap.size + 1, j, none⟩ = false := fun j => frozen_of_row _ _ _ _ _ hx4
                have t1 := heap_setCell_same _ (wr.heap.size + 1) 0 _ _ (.bool false) hx5
                have t2 := heap_setCell_same _ (wr.heap.size + 1) 1 _ _ (.int .i64 0) t1
                have t3 := heap_setCell_same _ (wr.heap.size + 1) 2 _ _ (.int .i64 0) t2
                have HMz := hide_it ((((hm2.box hwb hx5 0 (.bool false)).box hwb t1 1 (.int .i64 0)).box hwb t2 2 (.int .i64 0)).below ((Below.refl _ _).alloc (Nat.le_refl _) (.cells #[.bool false, .int .i64 0, .int .i64 0] 27)))
                unfold noCk at HMz
                try dsimp only at HMz
                have HT3 := hide_it t3
                have HO4 := hide_it ((hz2.block wr.heap.size (by have := hs2; omega)).trans ho3)
                clear hm2 t1 t2 t3 hx5
                have HX4 := hide_it hx4
                clear hx4 hx3 ho3 hz2
                dsimp only
                iterate 124 (first | go_step | skip)
                obtain ⟨Z5, hZ5⟩ : ∃ Z5, Z5 = ((((z2.setCell ⟨h, i, none⟩ (.pointer none)).setCell ⟨wr.heap.size + 1, 0, none⟩ (.bool false)).setCell ⟨wr.heap.size + 1, 1, none⟩ (.int .i64 0)).setCell ⟨wr.heap.size + 1, 2, none⟩ (.int .i64 0)).alloc (.cells #[.bool false, .int .i64 0, .int .i64 0] 27) := ⟨_, rfl⟩
                rw [← hZ5] at HMz ⊢
                have E1 : Z5.heap[wr.heap.size]? = some (.cells #[.int .i64 0, .int .i64 (i : Int), .int .i64 Av, .int .i64 Bv] 30 (0, 0)) := by
                  rw [hZ5, Below.heap_alloc _ _ _ (by simp; omega), Below.heap_setCell _ _ _ _ (by show wr.heap.size ≠ wr.heap.size + 1; omega), Below.heap_setCell _ _ _ _ (by show wr.heap.size ≠ wr.heap.size + 1; omega), Below.heap_setCell _ _ _ _ (by show wr.heap.size ≠ wr.heap.size + 1; omega), Below.heap_setCell _ _ _ _ (by show wr.heap.size ≠ h; omega)]
                  exact HO4.out
                have E2 : Z5.heap[wr.heap.size + 1]? = some (.cells #[.bool false, .int .i64 0, .int .i64 0] 27 (0, 0)) := by
                  rw [hZ5, Below.heap_alloc _ _ _ (by simp; omega)]
                  exact HT3.out
                have hz5 : z2.heap.size < Z5.heap.size := by rw [hZ5]; simp
                clear hZ5 g1 y0 y1 y2 y5 u0 u1 u2 u3 u4 u5
                obtain ⟨cq, eqq, zq, rq⟩ := HMz.out.qb
                obtain ⟨v0, v1, v2⟩ := rq i hi
                have u1 := (cell_of_row _ _ (i * 3) _ _ _ eqq).trans v0
                have u2 := (cell_of_row _ _ (i * 3 + 1) _ _ _ eqq).trans v1
                have u3 := (cell_of_row _ _ (i * 3 + 2) _ _ _ eqq).trans v2
                have u5 : ∀ j, Z5.frozen? ⟨q, j, none⟩ = false := fun j => frozen_of_row _ _ _ _ _ eqq
                clear eqq zq rq v0 v1 v2
                have g1 : Z5.cell? ⟨wr.heap.size, 1, none⟩ = some (.int .i64 (i : Int)) := cell_of_row _ _ _ _ _ _ E1
                have y0 : Z5.cell? ⟨wr.heap.size + 1, 0, none⟩ = some (.bool false) := cell_of_row _ _ _ _ _ _ E2
                have y1 : Z5.cell? ⟨wr.heap.size + 1, 1, none⟩ = some (.int .i64 0) := cell_of_row _ _ _ _ _ _ E2
                have y2 : Z5.cell? ⟨wr.heap.size + 1, 2, none⟩ = some (.int .i64 0) := cell_of_row _ _ _ _ _ _ E2
                have HM := hide_it (HMz.out.write hi)
                try dsimp only at HM
                clear E1 E2
                go_wp2
                go_roundw
                case rel =>
                  exact ⟨k + 1, _, _, by omega, by go_num, HM.out⟩
                case measure => simp [intOf]; omega
            · skip
              by_cases k1 : K = 1
              · subst k1
                have hpr : ∀ z, Below W2.heap.size W2 z → Calls Try.prog 8 #[.pointer pp] z fun e w' => e = .returned (.int .i64 (c.n)) ∧ Below z.heap.size z w' := fun z hz => by
                  rw [HV.out]; refine (now_any c Hok.out p z (Hpk.out.below (HB2.out.trans (hz.mono (by have := HB2.out.size; omega))))).mono ?_
                  rintro e w' ⟨rfl, rfl⟩; exact ⟨rfl, Below.refl _ _⟩
                have hrf : ∀ z, Calls Try.prog 9 #[.agg #[.bool c.t, .int .i64 c.n, .int .i64 c.k]] z fun e w' => e = .returned (.int .i64 (c.n)) ∧ Below z.heap.size z w' := fun z => rnow_any c z
                have hbx := (Below.refl W2.heap.size W2).drew
                go_wp2_with fail
                try rw [← hW2]
                clear hW2
                have hee : ((c.n) == (c.n)) = true := by simp
                refine wp_region_held_drew (S := (fun w' => w'.heap[wr.heap.size + 1]? = W2.heap[wr.heap.size + 1]?)) (by kernel_rfl) ?_ (fun hHeld => ?_)
                · rfl
                refine take_on (i := 0) (v := ?_) rfl rfl (by kernel_rfl) (by kernel_rfl) (by kernel_rfl) (fun _ _ _ h => h) rfl ?_ hHeld ?_
                rotate_left
                · (intro wq hSq; have hxq := hSq.trans HX2.out; have y0 := cell_of_row _ _ 0 _ _ _ hxq; have y1 := cell_of_row _ _ 1 _ _ _ hxq; have y2 := cell_of_row _ _ 2 _ _ _ hxq; go_simp <;> first | with_reducible rfl | rfl)
                simp only [Act.put, List.setIfInBounds_toArray, List.set_cons_zero, List.set_cons_succ]
                refine take_on (i := 2) (v := ?_) rfl rfl (by kernel_rfl) (by kernel_rfl) (by kernel_rfl) (fun _ _ _ h => h) rfl ?_ hHeld ?_
                rotate_left
                · (intro wq hSq; have hxq := hSq.trans HX2.out; have y0 := cell_of_row _ _ 0 _ _ _ hxq; have y1 := cell_of_row _ _ 1 _ _ _ hxq; have y2 := cell_of_row _ _ 2 _ _ _ hxq; go_simp <;> first | with_reducible rfl | rfl)
                simp only [Act.put, List.setIfInBounds_toArray, List.set_cons_zero, List.set_cons_succ]
                refine take_one (i := 1) rfl (by kernel_rfl) (fun K hK => ?_)
                go_simp
                (refine (hpr _ hbx).mono ?_; rintro e z1 ⟨rfl, hz1⟩; have hy1 := hbx.trans (hz1.mono (by have := hbx.size; omega)))
                try go_wp2_with fail
                refine hK.out _ _ ?_ (fun hHeld => ?_)
                · exact hy1.block _ (by have := hs2; omega)
                clear hK K
                try simp only [Act.put, List.setIfInBounds_toArray, List.set_cons_zero, List.set_cons_succ]
                refine take_one (i := 3) rfl (by kernel_rfl) (fun K hK => ?_)
                go_simp
                (refine (hrf _).mono ?_; rintro e z2 ⟨rfl, hz2⟩; have hy2 := hy1.trans (hz2.mono (by have := hy1.size; omega)))
                try go_wp2_with fail
                refine hK.out _ _ ?_ (fun hHeld => ?_)
                · exact hy2.block _ (by have := hs2; omega)
                clear hK K
                try simp only [Act.put, List.setIfInBounds_toArray, List.set_cons_zero, List.set_cons_succ]
                refine take_on (i := 4) (v := ?_) rfl rfl (by kernel_rfl) (by kernel_rfl) (by kernel_rfl) (fun _ _ _ h => h) rfl ?_ hHeld ?_
                rotate_left
                · (intro wq hSq; have hxq := hSq.trans HX2.out; have y0 := cell_of_row _ _ 0 _ _ _ hxq; have y1 := cell_of_row _ _ 1 _ _ _ hxq; have y2 := cell_of_row _ _ 2 _ _ _ hxq; go_simp <;> first | with_reducible rfl | rfl)
                simp only [Act.put, List.setIfInBounds_toArray, List.set_cons_zero, List.set_cons_succ]
                refine take_on (i := 5) (v := ?_) rfl rfl (by kernel_rfl) (by kernel_rfl) (by kernel_rfl) (fun _ _ _ h => h) rfl ?_ hHeld ?_
                rotate_left
                · (intro wq hSq; have hxq := hSq.trans HX2.out; have y0 := cell_of_row _ _ 0 _ _ _ hxq; have y1 := cell_of_row _ _ 1 _ _ _ hxq; have y2 := cell_of_row _ _ 2 _ _ _ hxq; go_simp <;> first | with_reducible rfl | rfl)
                simp only [Act.put, List.setIfInBounds_toArray, List.set_cons_zero, List.set_cons_succ]
                refine wpAnyH_done (by kernel_rfl) ?_ _
                have HZ := hide_it hy2
                have hS9 := HS2.out.below hy2
                have hx9 := (hy2.block (wr.heap.size + 1) (by have := hs2; omega)).trans HX2.out
                have g1 : z2.cell? ⟨wr.heap.size, 1, none⟩ = some (.int .i64 (i : Int)) := cell_of_row _ _ _ _ _ _ ((hy2.block wr.heap.size (by have := hs2; omega)).trans HO2.out)
                have HS9 := hide_it hS9
                obtain ⟨_, u1, u2, u3, _, u5⟩ := hS9.cells hi
                have y0 : z2.cell? ⟨wr.heap.size + 1, 0, none⟩ = some (.bool c.t) := cell_of_row _ _ _ _ _ _ hx9
                have y1 : z2.cell? ⟨wr.heap.size + 1, 1, none⟩ = some (.int .i64 c.n) := cell_of_row _ _ _ _ _ _ hx9
                have y2 : z2.cell? ⟨wr.heap.size + 1, 2, none⟩ = some (.int .i64 c.k) := cell_of_row _ _ _ _ _ _ hx9
                have hm := hS9.midSame hi
                rw [← HC.out] at hm
                have HM := hide_it (hm.write hi)
                clear hm hy1 hy2 hz1 hz2 hS9 hx9 hpr hrf hbx
                go_wp2
                go_roundw
                case rel =>
                  exact ⟨k + 1, _, _, by omega, by go_num, HM.out⟩
                case measure => simp [intOf]; omega
              · skip
                by_cases k2 : K = 2
                · subst k2
                  have hpr := next_any c Hok.out p W2 (Hpk.out.below HB2.out)
                  rw [← HV.out] at hpr
                  have hrf := rnext_any c Hok.out
                  have Hok2 := hide_it (nextC_ok Hok.out)
                  have Ht2 := hide_it (nextC_t c)
                  obtain ⟨N, hN⟩ : ∃ N, N = nextN c := ⟨_, rfl⟩
                  obtain ⟨E, hE⟩ : ∃ E, E = nextE c := ⟨_, rfl⟩
                  rw [← hN, ← hE] at hpr
                  simp only [← hN, ← hE] at hrf
                  clear hN hE
                  have hee1 : (N == N) = true := by simp
                  have hee2 : (E == E) = true := by simp
                  obtain ⟨d, hd⟩ : ∃ d, d = nextC c := ⟨_, rfl⟩
                  rw [← hd] at hpr Hok2 Ht2
                  simp only [← hd] at hrf
                  clear hd
                  unfold valK at hrf
                  have f2 : W2.cell? ⟨wr.heap.size, 2, none⟩ = some (.int .i64 Av) := cell_of_row _ _ _ _ _ _ ho2
                  go_wp2_with fail
                  try rw [← hW2]
                  clear hW2
                  refine hpr.mono ?_
                  rintro e z1 ⟨rfl, htk⟩
                  clear hpr
                  have hplt : c.t = true → p < wr.heap.size := fun e => Hpk.out.lt e
                  have hx3 := (htk.chg.block (wr.heap.size + 1) (by have := hs2; omega) (fun x => by have := hplt x.1; omega)).trans HX2.out
                  have ho3 := (htk.chg.block wr.heap.size (by have := hs2; omega) (fun x => by have := hplt x.1; omega)).trans HO2.out
                  have hm1 : Mid w z1 h q C (put3 C i d) P := HS2.out.mid hi Hok2.out (by rw [Ht2.out, HC.out]) (by rw [← HP.out, ← HC.out]; exact htk)
                  have hsz1 := htk.chg.size
                  have y0 : z1.cell? ⟨wr.heap.size + 1, 0, none⟩ = some (.bool c.t) := cell_of_row _ _ _ _ _ _ hx3
                  have y1 : z1.cell? ⟨wr.heap.size + 1, 1, none⟩ = some (.int .i64 c.n) := cell_of_row _ _ _ _ _ _ hx3
                  have y2 : z1.cell? ⟨wr.heap.size + 1, 2, none⟩ = some (.int .i64 c.k) := cell_of_row _ _ _ _ _ _ hx3
                  have f3 : z1.cell? ⟨wr.heap.size, 2, none⟩ = some (.int .i64 Av) := cell_of_row _ _ _ _ _ _ ho3
                  clear htk hplt f2
                  go_wp2_with fail
                  refine (hrf z1).mono ?_
                  rintro e z2 ⟨rfl, hz2⟩
                  clear hrf y0 y1 y2 f3
                  have hx4 := (hz2.block (wr.heap.size + 1) (by have := hs2; omega)).trans hx3
                  have hm2 := hm1.below hz2
                  have hsz2 := hz2.size
                  have hwb : w.heap.size ≤ wr.heap.size + 1 := by have := HS.out.bel.size; omega
                  have hxn : wr.heap.size + 1 < z2.heap.size := by omega
                  have hon : wr.heap.size < z2.heap.size := by omega
                  have hhn : h < z2.heap.size := by omega
                  have hqn : q < z2.heap.size := by omega
                  have g1 : z2.cell? ⟨wr.heap.size, 1, none⟩ = some (.int .i64 (i : Int)) := cell_of_row _ _ _ _ _ _ ((hz2.block wr.heap.size (by have := hs2; omega)).trans ho3)
                  obtain ⟨cq, eqq, zq, rq⟩ := hm2.qb
                  obtain ⟨v0, v1, v2⟩ := rq i hi
                  have u1 := (cell_of_row _ _ (i * 3) _ _ _ eqq).trans v0
                  have u2 := (cell_of_row _ _ (i * 3 + 1) _ _ _ eqq).trans v1
                  have u3 := (cell_of_row _ _ (i * 3 + 2) _ _ _ eqq).trans v2
                  have u5 : ∀ j, z2.frozen? ⟨q, j, none⟩ = false := fun j => frozen_of_row _ _ _ _ _ eqq
                  clear eqq zq rq v0 v1 v2
                  have y0 : z2.cell? ⟨wr.heap.size + 1, 0, none⟩ = some (.bool c.t) := cell_of_row _ _ _ _ _ _ hx4
                  have y1 : z2.cell? ⟨wr.heap.size + 1, 1, none⟩ = some (.int .i64 c.n) := cell_of_row _ _ _ _ _ _ hx4
                  have y2 : z2.cell? ⟨wr.heap.size + 1, 2, none⟩ = some (.int .i64 c.k) := cell_of_row _ _ _ _ _ _ hx4
                  have y5 : ∀ j, z2.frozen? ⟨wr.heap.size + 1, j, none⟩ = false := fun j => frozen_of_row _ _ _ _ _ hx4
                  have t1 := heap_setCell_same _ (wr.heap.size + 1) 0 _ _ (.bool d.t) hx4
                  have t2 := heap_setCell_same _ (wr.heap.size + 1) 1 _ _ (.int .i64 d.n) t1
                  have HM := hide_it ((((hm2.box hwb hx4 0 (.bool d.t)).box hwb t1 1 (.int .i64 d.n)).box hwb t2 2 (.int .i64 d.k)).write hi)
                  try dsimp only at HM
                  clear hm2 t1 t2
                  have HX4 := hide_it hx4
                  clear hx4 hx3 ho3 hz2
                  go_wp2
                  go_roundw
                  case rel =>
                    exact ⟨k + 1, _, _, by omega, by go_num, HM.out.below ((Below.refl _ _).alloc (Nat.le_refl _) _)⟩
                  case measure => simp [intOf]; omega
                · skip
                  by_cases k3 : K = 3
                  · subst k3
                    have hpr : ∀ z, Below W2.heap.size W2 z → Calls Try.prog 12 #[.pointer pp] z fun e w' => e = .returned (.bool (worn c)) ∧ Below z.heap.size z w' := fun z hz => by
                      rw [HV.out]; refine (worn_any c Hok.out p z (Hpk.out.below (HB2.out.trans (hz.mono (by have := HB2.out.size; omega))))).mono ?_
                      rintro e w' ⟨rfl, rfl⟩; exact ⟨rfl, Below.refl _ _⟩
                    have hrf : ∀ z, Calls Try.prog 13 #[.agg #[.bool c.t, .int .i64 c.n, .int .i64 c.k]] z fun e w' => e = .returned (.bool (worn c)) ∧ Below z.heap.size z w' := fun z => rworn_any c Hok.out z
                    have hbx := (Below.refl W2.heap.size W2).drew
                    go_wp2_with fail
                    try rw [← hW2]
                    clear hW2
                    have hee : ((worn c) == (worn c)) = true := by simp
                    refine wp_region_held_drew (S := (fun w' => w'.heap[wr.heap.size + 1]? = W2.heap[wr.heap.size + 1]?)) (by kernel_rfl) ?_ (fun hHeld => ?_)
                    · rfl
                    refine take_on (i := 0) (v := ?_) rfl rfl (by kernel_rfl) (by kernel_rfl) (by kernel_rfl) (fun _ _ _ h => h) rfl ?_ hHeld ?_
                    rotate_left
                    · (intro wq hSq; have hxq := hSq.trans HX2.out; have y0 := cell_of_row _ _ 0 _ _ _ hxq; have y1 := cell_of_row _ _ 1 _ _ _ hxq; have y2 := cell_of_row _ _ 2 _ _ _ hxq; go_simp <;> first | with_reducible rfl | rfl)
                    simp only [Act.put, List.setIfInBounds_toArray, List.set_cons_zero, List.set_cons_succ]
                    refine take_on (i := 2) (v := ?_) rfl rfl (by kernel_rfl) (by kernel_rfl) (by kernel_rfl) (fun _ _ _ h => h) rfl ?_ hHeld ?_
                    rotate_left
                    · (intro wq hSq; have hxq := hSq.trans HX2.out; have y0 := cell_of_row _ _ 0 _ _ _ hxq; have y1 := cell_of_row _ _ 1 _ _ _ hxq; have y2 := cell_of_row _ _ 2 _ _ _ hxq; go_simp <;> first | with_reducible rfl | rfl)
                    simp only [Act.put, List.setIfInBounds_toArray, List.set_cons_zero, List.set_cons_succ]
                    refine take_one (i := 1) rfl (by kernel_rfl) (fun K hK => ?_)
                    go_simp
                    (refine (hpr _ hbx).mono ?_; rintro e z1 ⟨rfl, hz1⟩; have hy1 := hbx.trans (hz1.mono (by have := hbx.size; omega)))
                    try go_wp2_with fail
                    refine hK.out _ _ ?_ (fun hHeld => ?_)
                    · exact hy1.block _ (by have := hs2; omega)
                    clear hK K
                    try simp only [Act.put, List.setIfInBounds_toArray, List.set_cons_zero, List.set_cons_succ]
                    refine take_one (i := 3) rfl (by kernel_rfl) (fun K hK => ?_)
                    go_simp
                    (refine (hrf _).mono ?_; rintro e z2 ⟨rfl, hz2⟩; have hy2 := hy1.trans (hz2.mono (by have := hy1.size; omega)))
                    try go_wp2_with fail
                    refine hK.out _ _ ?_ (fun hHeld => ?_)
                    · exact hy2.block _ (by have := hs2; omega)
                    clear hK K
                    try simp only [Act.put, List.setIfInBounds_toArray, List.set_cons_zero, List.set_cons_succ]
                    refine take_on (i := 4) (v := ?_) rfl rfl (by kernel_rfl) (by kernel_rfl) (by kernel_rfl) (fun _ _ _ h => h) rfl ?_ hHeld ?_
                    rotate_left
                    · (intro wq hSq; have hxq := hSq.trans HX2.out; have y0 := cell_of_row _ _ 0 _ _ _ hxq; have y1 := cell_of_row _ _ 1 _ _ _ hxq; have y2 := cell_of_row _ _ 2 _ _ _ hxq; go_simp <;> first | with_reducible rfl | rfl)
                    simp only [Act.put, List.setIfInBounds_toArray, List.set_cons_zero, List.set_cons_succ]
                    refine take_on (i := 5) (v := ?_) rfl rfl (by kernel_rfl) (by kernel_rfl) (by kernel_rfl) (fun _ _ _ h => h) rfl ?_ hHeld ?_
                    rotate_left
                    · (intro wq hSq; have hxq := hSq.trans HX2.out; have y0 := cell_of_row _ _ 0 _ _ _ hxq; have y1 := cell_of_row _ _ 1 _ _ _ hxq; have y2 := cell_of_row _ _ 2 _ _ _ hxq; go_simp <;> first | with_reducible rfl | rfl)
                    simp only [Act.put, List.setIfInBounds_toArray, List.set_cons_zero, List.set_cons_succ]
                    refine wpAnyH_done (by kernel_rfl) ?_ _
                    have HZ := hide_it hy2
                    have hS9 := HS2.out.below hy2
                    have hx9 := (hy2.block (wr.heap.size + 1) (by have := hs2; omega)).trans HX2.out
                    have g1 : z2.cell? ⟨wr.heap.size, 1, none⟩ = some (.int .i64 (i : Int)) := cell_of_row _ _ _ _ _ _ ((hy2.block wr.heap.size (by have := hs2; omega)).trans HO2.out)
                    have HS9 := hide_it hS9
                    obtain ⟨_, u1, u2, u3, _, u5⟩ := hS9.cells hi
                    have y0 : z2.cell? ⟨wr.heap.size + 1, 0, none⟩ = some (.bool c.t) := cell_of_row _ _ _ _ _ _ hx9
                    have y1 : z2.cell? ⟨wr.heap.size + 1, 1, none⟩ = some (.int .i64 c.n) := cell_of_row _ _ _ _ _ _ hx9
                    have y2 : z2.cell? ⟨wr.heap.size + 1, 2, none⟩ = some (.int .i64 c.k) := cell_of_row _ _ _ _ _ _ hx9
                    have hm := hS9.midSame hi
                    rw [← HC.out] at hm
                    have HM := hide_it (hm.write hi)
                    clear hm hy1 hy2 hz1 hz2 hS9 hx9 hpr hrf hbx
                    go_wp2
                    go_roundw
                    case rel =>
                      exact ⟨k + 1, _, _, by omega, by go_num, HM.out⟩
                    case measure => simp [intOf]; omega
                  · skip
                    by_cases k4 : K = 4
                    · subst k4
                      have hpr := set_any c p Av W2 (Hpk.out.below HB2.out)
                      rw [← HV.out] at hpr
                      have hrf := rset_any c Av
                      have Hok2 := hide_it (setC_ok Hok.out Av)
                      have Ht2 := hide_it (setC_t c Av)
                      obtain ⟨E, hE⟩ : ∃ E, E = setE c Av := ⟨_, rfl⟩
                      rw [← hE] at hpr
                      simp only [← hE] at hrf
                      clear hE
                      have hee2 : (E == E) = true := by simp
                      obtain ⟨d, hd⟩ : ∃ d, d = setC c Av := ⟨_, rfl⟩
                      rw [← hd] at hpr Hok2 Ht2
                      simp only [← hd] at hrf
                      clear hd
                      unfold valK at hrf
                      have f2 : W2.cell? ⟨wr.heap.size, 2, none⟩ = some (.int .i64 Av) := cell_of_row _ _ _ _ _ _ ho2
                      go_wp2_with fail
                      try rw [← hW2]
                      clear hW2
                      refine hpr.mono ?_
                      rintro e z1 ⟨rfl, htk⟩
                      clear hpr
                      have hplt : c.t = true → p < wr.heap.size := fun e => Hpk.out.lt e
                      have hx3 := (htk.chg.block (wr.heap.size + 1) (by have := hs2; omega) (fun x => by have := hplt x.1; omega)).trans HX2.out
                      have ho3 := (htk.chg.block wr.heap.size (by have := hs2; omega) (fun x => by have := hplt x.1; omega)).trans HO2.out
                      have hm1 : Mid w z1 h q C (put3 C i d) P := HS2.out.mid hi Hok2.out (by rw [Ht2.out, HC.out]) (by rw [← HP.out, ← HC.out]; exact htk)
                      have hsz1 := htk.chg.size
                      have y0 : z1.cell? ⟨wr.heap.size + 1, 0, none⟩ = some (.bool c.t) := cell_of_row _ _ _ _ _ _ hx3
                      have y1 : z1.cell? ⟨wr.heap.size + 1, 1, none⟩ = some (.int .i64 c.n) := cell_of_row _ _ _ _ _ _ hx3
                      have y2 : z1.cell? ⟨wr.heap.size + 1, 2, none⟩ = some (.int .i64 c.k) := cell_of_row _ _ _ _ _ _ hx3
                      have f3 : z1.cell? ⟨wr.heap.size, 2, none⟩ = some (.int .i64 Av) := cell_of_row _ _ _ _ _ _ ho3
                      clear htk hplt f2
                      go_wp2_with fail
                      refine (hrf z1).mono ?_
                      rintro e z2 ⟨rfl, hz2⟩
                      clear hrf y0 y1 y2 f3
                      have hx4 := (hz2.block (wr.heap.size + 1) (by have := hs2; omega)).trans hx3
                      have hm2 := hm1.below hz2
                      have hsz2 := hz2.size
                      have hwb : w.heap.size ≤ wr.heap.size + 1 := by have := HS.out.bel.size; omega
                      have hxn : wr.heap.size + 1 < z2.heap.size := by omega
                      have hon : wr.heap.size < z2.heap.size := by omega
                      have hhn : h < z2.heap.size := by omega
                      have hqn : q < z2.heap.size := by omega
                      have g1 : z2.cell? ⟨wr.heap.size, 1, none⟩ = some (.int .i64 (i : Int)) := cell_of_row _ _ _ _ _ _ ((hz2.block wr.heap.size (by have := hs2; omega)).trans ho3)
                      obtain ⟨cq, eqq, zq, rq⟩ := hm2.qb
                      obtain ⟨v0, v1, v2⟩ := rq i hi
                      have u1 := (cell_of_row _ _ (i * 3) _ _ _ eqq).trans v0
                      have u2 := (cell_of_row _ _ (i * 3 + 1) _ _ _ eqq).trans v1
                      have u3 := (cell_of_row _ _ (i * 3 + 2) _ _ _ eqq).trans v2
                      have u5 : ∀ j, z2.frozen? ⟨q, j, none⟩ = false := fun j => frozen_of_row _ _ _ _ _ eqq
                      clear eqq zq rq v0 v1 v2
                      have y0 : z2.cell? ⟨wr.heap.size + 1, 0, none⟩ = some (.bool c.t) := cell_of_row _ _ _ _ _ _ hx4
                      have y1 : z2.cell? ⟨wr.heap.size + 1, 1, none⟩ = some (.int .i64 c.n) := cell_of_row _ _ _ _ _ _ hx4
                      have y2 : z2.cell? ⟨wr.heap.size + 1, 2, none⟩ = some (.int .i64 c.k) := cell_of_row _ _ _ _ _ _ hx4
                      have y5 : ∀ j, z2.frozen? ⟨wr.heap.size + 1, j, none⟩ = false := fun j => frozen_of_row _ _ _ _ _ hx4
                      have t1 := heap_setCell_same _ (wr.heap.size + 1) 0 _ _ (.bool d.t) hx4
                      have t2 := heap_setCell_same _ (wr.heap.size + 1) 1 _ _ (.int .i64 d.n) t1
                      have HM := hide_it ((((hm2.box hwb hx4 0 (.bool d.t)).box hwb t1 1 (.int .i64 d.n)).box hwb t2 2 (.int .i64 d.k)).write hi)
                      try dsimp only at HM
                      clear hm2 t1 t2
                      have HX4 := hide_it hx4
                      clear hx4 hx3 ho3 hz2
                      go_wp2
                      go_roundw
                      case rel =>
                        exact ⟨k + 1, _, _, by omega, by go_num, HM.out.below ((Below.refl _ _).alloc (Nat.le_refl _) _)⟩
                      case measure => simp [intOf]; omega
                    · skip
                      by_cases k5 : K = 5
                      · subst k5
                        have hpr : ∀ z, Below W2.heap.size W2 z → Calls Try.prog 16 #[.pointer pp] z fun e w' => e = .returned (.int .i64 (c.n - c.k)) ∧ Below z.heap.size z w' := fun z hz => by
                          rw [HV.out]; refine (horizon_any c Hok.out p z (Hpk.out.below (HB2.out.trans (hz.mono (by have := HB2.out.size; omega))))).mono ?_
                          rintro e w' ⟨rfl, h⟩; exact ⟨rfl, h⟩
                        have hrf : ∀ z, Calls Try.prog 17 #[.agg #[.bool c.t, .int .i64 c.n, .int .i64 c.k]] z fun e w' => e = .returned (.int .i64 (c.n - c.k)) ∧ Below z.heap.size z w' := fun z => rhorizon_any c Hok.out z
                        have hbx := (Below.refl W2.heap.size W2).drew
                        go_wp2_with fail
                        try rw [← hW2]
                        clear hW2
                        have hee : ((c.n - c.k) == (c.n - c.k)) = true := by simp
                        refine wp_region_held_drew (S := (fun w' => w'.heap[wr.heap.size + 1]? = W2.heap[wr.heap.size + 1]?)) (by kernel_rfl) ?_ (fun hHeld => ?_)
                        · rfl
                        refine take_on (i := 0) (v := ?_) rfl rfl (by kernel_rfl) (by kernel_rfl) (by kernel_rfl) (fun _ _ _ h => h) rfl ?_ hHeld ?_
                        rotate_left
                        · (intro wq hSq; have hxq := hSq.trans HX2.out; have y0 := cell_of_row _ _ 0 _ _ _ hxq; have y1 := cell_of_row _ _ 1 _ _ _ hxq; have y2 := cell_of_row _ _ 2 _ _ _ hxq; go_simp <;> first | with_reducible rfl | rfl)
                        simp only [Act.put, List.setIfInBounds_toArray, List.set_cons_zero, List.set_cons_succ]
                        refine take_on (i := 2) (v := ?_) rfl rfl (by kernel_rfl) (by kernel_rfl) (by kernel_rfl) (fun _ _ _ h => h) rfl ?_ hHeld ?_
                        rotate_left
                        · (intro wq hSq; have hxq := hSq.trans HX2.out; have y0 := cell_of_row _ _ 0 _ _ _ hxq; have y1 := cell_of_row _ _ 1 _ _ _ hxq; have y2 := cell_of_row _ _ 2 _ _ _ hxq; go_simp <;> first | with_reducible rfl | rfl)
                        simp only [Act.put, List.setIfInBounds_toArray, List.set_cons_zero, List.set_cons_succ]
                        refine take_one (i := 1) rfl (by kernel_rfl) (fun K hK => ?_)
                        go_simp
                        (refine (hpr _ hbx).mono ?_; rintro e z1 ⟨rfl, hz1⟩; have hy1 := hbx.trans (hz1.mono (by have := hbx.size; omega)))
                        try go_wp2_with fail
                        refine hK.out _ _ ?_ (fun hHeld => ?_)
                        · exact hy1.block _ (by have := hs2; omega)
                        clear hK K
                        try simp only [Act.put, List.setIfInBounds_toArray, List.set_cons_zero, List.set_cons_succ]
                        refine take_one (i := 3) rfl (by kernel_rfl) (fun K hK => ?_)
                        go_simp
                        (refine (hrf _).mono ?_; rintro e z2 ⟨rfl, hz2⟩; have hy2 := hy1.trans (hz2.mono (by have := hy1.size; omega)))
                        try go_wp2_with fail
                        refine hK.out _ _ ?_ (fun hHeld => ?_)
                        · exact hy2.block _ (by have := hs2; omega)
                        clear hK K
                        try simp only [Act.put, List.setIfInBounds_toArray, List.set_cons_zero, List.set_cons_succ]
                        refine take_on (i := 4) (v := ?_) rfl rfl (by kernel_rfl) (by kernel_rfl) (by kernel_rfl) (fun _ _ _ h => h) rfl ?_ hHeld ?_
                        rotate_left
                        · (intro wq hSq; have hxq := hSq.trans HX2.out; have y0 := cell_of_row _ _ 0 _ _ _ hxq; have y1 := cell_of_row _ _ 1 _ _ _ hxq; have y2 := cell_of_row _ _ 2 _ _ _ hxq; go_simp <;> first | with_reducible rfl | rfl)
                        simp only [Act.put, List.setIfInBounds_toArray, List.set_cons_zero, List.set_cons_succ]
                        refine take_on (i := 5) (v := ?_) rfl rfl (by kernel_rfl) (by kernel_rfl) (by kernel_rfl) (fun _ _ _ h => h) rfl ?_ hHeld ?_
                        rotate_left
                        · (intro wq hSq; have hxq := hSq.trans HX2.out; have y0 := cell_of_row _ _ 0 _ _ _ hxq; have y1 := cell_of_row _ _ 1 _ _ _ hxq; have y2 := cell_of_row _ _ 2 _ _ _ hxq; go_simp <;> first | with_reducible rfl | rfl)
                        simp only [Act.put, List.setIfInBounds_toArray, List.set_cons_zero, List.set_cons_succ]
                        refine wpAnyH_done (by kernel_rfl) ?_ _
                        have HZ := hide_it hy2
                        have hS9 := HS2.out.below hy2
                        have hx9 := (hy2.block (wr.heap.size + 1) (by have := hs2; omega)).trans HX2.out
                        have g1 : z2.cell? ⟨wr.heap.size, 1, none⟩ = some (.int .i64 (i : Int)) := cell_of_row _ _ _ _ _ _ ((hy2.block wr.heap.size (by have := hs2; omega)).trans HO2.out)
                        have HS9 := hide_it hS9
                        obtain ⟨_, u1, u2, u3, _, u5⟩ := hS9.cells hi
                        have y0 : z2.cell? ⟨wr.heap.size + 1, 0, none⟩ = some (.bool c.t) := cell_of_row _ _ _ _ _ _ hx9
                        have y1 : z2.cell? ⟨wr.heap.size + 1, 1, none⟩ = some (.int .i64 c.n) := cell_of_row _ _ _ _ _ _ hx9
                        have y2 : z2.cell? ⟨wr.heap.size + 1, 2, none⟩ = some (.int .i64 c.k) := cell_of_row _ _ _ _ _ _ hx9
                        have hm := hS9.midSame hi
                        rw [← HC.out] at hm
                        have HM := hide_it (hm.write hi)
                        clear hm hy1 hy2 hz1 hz2 hS9 hx9 hpr hrf hbx
                        go_wp2
                        go_roundw
                        case rel =>
                          exact ⟨k + 1, _, _, by omega, by go_num, HM.out⟩
                        case measure => simp [intOf]; omega
                      · skip
                        have n0 : (K == 0) = false := by simpa using k0
                        have n1 : (K == 1) = false := by simpa using k1
                        have n2 : (K == 2) = false := by simpa using k2
                        have n3 : (K == 3) = false := by simpa using k3
                        have n4 : (K == 4) = false := by simpa using k4
                        have n5 : (K == 5) = false := by simpa using k5
                        clear k0 k1 k2 k3 k4 k5
                        clear hW2
                        have hm := HS.out.midSame hi
                        rw [← HC.out] at hm
                        have HM := hide_it (hm.write hi)
                        clear hm
                        go_wp2
                        go_roundw
                        case rel =>
                          exact ⟨k + 1, _, _, by omega, by go_num, HM.out.below (((Below.refl _ _).alloc (Nat.le_refl _) _).alloc (by simp) _)⟩
                        case measure => simp [intOf]; omega
        · as_aux_lemma =>
            obtain ⟨W2, hW2⟩ : ∃ W2, W2 = (wr.alloc (.cells #[.int .i64 K, .int .i64 X, .int .i64 Av, .int .i64 Bv] 30)).alloc (.cells #[.bool false, .int .i64 0, .int .i64 0] 27) := ⟨_, rfl⟩
            have hb2 : Below wr.heap.size wr W2 := by rw [hW2]; exact ((Below.refl _ _).alloc (Nat.le_refl _) _).alloc (by simp) _
            have hs2 : W2.heap.size = wr.heap.size + 1 + 1 := by rw [hW2]; simp
            have ho2 : W2.heap[wr.heap.size]? = some (.cells #[.int .i64 K, .int .i64 X, .int .i64 Av, .int .i64 Bv] 30 (0, 0)) := by rw [hW2, Below.heap_alloc _ _ _ (by simp)]; exact heap_alloc_new wr _
            have hx2 : W2.heap[wr.heap.size + 1]? = some (.cells #[.bool false, .int .i64 0, .int .i64 0] 27 (0, 0)) := by
              have h9 := heap_alloc_new (wr.alloc (.cells #[.int .i64 K, .int .i64 X, .int .i64 Av, .int .i64 Bv] 30)) (.cells #[.bool false, .int .i64 0, .int .i64 0] 27)
              rw [show (wr.alloc (.cells #[.int .i64 K, .int .i64 X, .int .i64 Av, .int .i64 Bv] 30)).heap.size = wr.heap.size + 1 by simp] at h9
              rw [hW2]; exact h9
            have HS2 := hide_it (HS.out.below hb2)
            have HB2 := hide_it hb2
            have HO2 := hide_it ho2
            have HX2 := hide_it hx2
            by_cases k0 : K = 0
            · subst k0
              by_cases hf : fine Av Bv
              · skip
                have hpr := new_ok Av Bv hf W2
                have hrf : ∀ z, Calls Try.prog 7 #[.int .i64 Av, .int .i64 Bv] z fun e w' => e = .returned (.tuple #[.agg #[.bool true, .int .i64 Av, .int .i64 Bv], .int .i64 0]) ∧ Below z.heap.size z w' := fun z => by
                  have h9 := rnew_any Av Bv z
                  rw [show newC Av Bv = ⟨true, Av, Bv⟩ by simp [newC, hf], show newE Av Bv = 0 by simp [newE, hf]] at h9
                  exact h9
                have Hdk : Hid (CkOk ⟨true, Av, Bv⟩) := hide_it (by have := newC_ok Av Bv; rwa [show newC Av Bv = ⟨true, Av, Bv⟩ by simp [newC, hf]] at this)
                obtain ⟨z0, hz0⟩ : ∃ z0, z0 = W2.alloc (.cells #[.int .i64 Av, .int .i64 Bv] 59) := ⟨_, rfl⟩
                have hb3 : Below W2.heap.size W2 z0 := by rw [hz0]; exact ((Below.refl _ _).alloc (Nat.le_refl _) _)
                have hpk0 : Pk z0 W2.heap.size ⟨true, Av, Bv⟩ := fun _ => by rw [hz0]; exact heap_alloc_new W2 _
                rw [← hz0] at hpr
                clear hz0
                have f2 : W2.cell? ⟨wr.heap.size, 2, none⟩ = some (.int .i64 Av) := cell_of_row _ _ _ _ _ _ ho2
                have f3 : W2.cell? ⟨wr.heap.size, 3, none⟩ = some (.int .i64 Bv) := cell_of_row _ _ _ _ _ _ ho2
                clear hf
                go_wp2_with fail
                try rw [← hW2]
                clear hW2
                refine hpr.mono ?_
                rintro e z1 ⟨rfl, hq1⟩
                clear hpr
                rw [hq1]
                clear hq1 z1
                obtain ⟨z1, hz1⟩ : ∃ z1, z1 = z0 := ⟨_, rfl⟩
                rw [← hz1] at hb3 hpk0 ⊢
                clear hz1
                have hx3 := (hb3.block (wr.heap.size + 1) (by have := hs2; omega)).trans HX2.out
                have ho3 := (hb3.block wr.heap.size (by have := hs2; omega)).trans HO2.out
                have hs3 := HS2.out.below hb3
                have hsz1 := hb3.size
                clear f2 f3
                have f2 : z1.cell? ⟨wr.heap.size, 2, none⟩ = some (.int .i64 Av) := cell_of_row _ _ _ _ _ _ ho3
                have f3 : z1.cell? ⟨wr.heap.size, 3, none⟩ = some (.int .i64 Bv) := cell_of_row _ _ _ _ _ _ ho3
                go_wp2_with fail
                refine (hrf z1).mono ?_
                rintro e z2 ⟨rfl, hz2⟩
                clear hrf f2 f3
                have hx4 := (hz2.block (wr.heap.size + 1) (by have := hs2; omega)).trans hx3
                have hs4 := hs3.below hz2
                have hsz2 := hz2.size
                have hwb : w.heap.size ≤ wr.heap.size + 1 := by have := HS.out.bel.size; omega
                have hxn : wr.heap.size + 1 < z2.heap.size := by omega
                have hon : wr.heap.size < z2.heap.size := by omega
                have hhn : h < z2.heap.size := by omega
                have hqn : q < z2.heap.size := by omega
                have HM := hide_it hs4
                clear hs4 hx4 hx3 ho3 hz2
                go_wp2
                go_roundw
                case rel =>
                  exact ⟨k + 1, _, _, by omega, by go_num, HM.out.below ((Below.refl _ _).alloc (Nat.le_refl _) _)⟩
                case measure => simp [intOf]; omega
              · skip
                have hpr := new_no Av Bv hf W2
                have hrf : ∀ z, Calls Try.prog 7 #[.int .i64 Av, .int .i64 Bv] z fun e w' => e = .returned (.tuple #[.agg #[.bool false, .int .i64 0, .int .i64 0], .int .i64 2]) ∧ Below z.heap.size z w' := fun z => by
                  have h9 := rnew_any Av Bv z
                  rw [show newC Av Bv = noCk by simp [newC, hf], show newE Av Bv = 2 by simp [newE, hf]] at h9
                  exact h9
                have Hdk : Hid (CkOk noCk) := hide_it (noCk_ok)
                have f2 : W2.cell? ⟨wr.heap.size, 2, none⟩ = some (.int .i64 Av) := cell_of_row _ _ _ _ _ _ ho2
                have f3 : W2.cell? ⟨wr.heap.size, 3, none⟩ = some (.int .i64 Bv) := cell_of_row _ _ _ _ _ _ ho2
                clear hf
                go_wp2_with fail
                try rw [← hW2]
                clear hW2
                refine hpr.mono ?_
                rintro e z1 ⟨rfl, hq1⟩
                clear hpr
                rw [hq1]
                clear hq1 z1
                obtain ⟨z1, hz1⟩ : ∃ z1, z1 = W2 := ⟨_, rfl⟩
                have hb3 : Below W2.heap.size W2 z1 := by rw [hz1]; exact Below.refl _ _
                rw [← hz1]
                clear hz1
                have hx3 := (hb3.block (wr.heap.size + 1) (by have := hs2; omega)).trans HX2.out
                have ho3 := (hb3.block wr.heap.size (by have := hs2; omega)).trans HO2.out
                have hs3 := HS2.out.below hb3
                have hsz1 := hb3.size
                clear f2 f3
                have f2 : z1.cell? ⟨wr.heap.size, 2, none⟩ = some (.int .i64 Av) := cell_of_row _ _ _ _ _ _ ho3
                have f3 : z1.cell? ⟨wr.heap.size, 3, none⟩ = some (.int .i64 Bv) := cell_of_row _ _ _ _ _ _ ho3
                go_wp2_with fail
                refine (hrf z1).mono ?_
                rintro e z2 ⟨rfl, hz2⟩
                clear hrf f2 f3
                have hx4 := (hz2.block (wr.heap.size + 1) (by have := hs2; omega)).trans hx3
                have hs4 := hs3.below hz2
                have hsz2 := hz2.size
                have hwb : w.heap.size ≤ wr.heap.size + 1 := by have := HS.out.bel.size; omega
                have hxn : wr.heap.size + 1 < z2.heap.size := by omega
                have hon : wr.heap.size < z2.heap.size := by omega
                have hhn : h < z2.heap.size := by omega
                have hqn : q < z2.heap.size := by omega
                have HM := hide_it hs4
                clear hs4 hx4 hx3 ho3 hz2
                go_wp2
                go_roundw
                case rel =>
                  exact ⟨k + 1, _, _, by omega, by go_num, HM.out.below ((Below.refl _ _).alloc (Nat.le_refl _) _)⟩
                case measure => simp [intOf]; omega
            · skip
              by_cases k1 : K = 1
              · subst k1
                have hpr : ∀ z, Below W2.heap.size W2 z → Calls Try.prog 8 #[.pointer none] z fun e w' => e = .returned (.int .i64 (0)) ∧ Below z.heap.size z w' := fun z hz => by
                  refine (now_any noCk noCk_ok 0 z (fun e => by cases e)).mono ?_
                  rintro e w' ⟨rfl, rfl⟩; exact ⟨rfl, Below.refl _ _⟩
                have hrf : ∀ z, Calls Try.prog 9 #[.agg #[.bool false, .int .i64 0, .int .i64 0]] z fun e w' => e = .returned (.int .i64 (0)) ∧ Below z.heap.size z w' := fun z => rnow_any noCk z
                have hbx := (Below.refl W2.heap.size W2).drew
                go_wp2_with fail
                try rw [← hW2]
                clear hW2
                refine wp_region_held_drew (S := (fun w' => w'.heap[wr.heap.size + 1]? = W2.heap[wr.heap.size + 1]?)) (by kernel_rfl) ?_ (fun hHeld => ?_)
                · rfl
                refine take_on (i := 0) (v := ?_) rfl rfl (by kernel_rfl) (by kernel_rfl) (by kernel_rfl) (fun _ _ _ h => h) rfl ?_ hHeld ?_
                rotate_left
                · (intro wq hSq; have hxq := hSq.trans HX2.out; have y0 := cell_of_row _ _ 0 _ _ _ hxq; have y1 := cell_of_row _ _ 1 _ _ _ hxq; have y2 := cell_of_row _ _ 2 _ _ _ hxq; go_simp <;> first | with_reducible rfl | rfl)
                simp only [Act.put, List.setIfInBounds_toArray, List.set_cons_zero, List.set_cons_succ]
                refine take_on (i := 2) (v := ?_) rfl rfl (by kernel_rfl) (by kernel_rfl) (by kernel_rfl) (fun _ _ _ h => h) rfl ?_ hHeld ?_
                rotate_left
                · (intro wq hSq; have hxq := hSq.trans HX2.out; have y0 := cell_of_row _ _ 0 _ _ _ hxq; have y1 := cell_of_row _ _ 1 _ _ _ hxq; have y2 := cell_of_row _ _ 2 _ _ _ hxq; go_simp <;> first | with_reducible rfl | rfl)
                simp only [Act.put, List.setIfInBounds_toArray, List.set_cons_zero, List.set_cons_succ]
                refine take_one (i := 1) rfl (by kernel_rfl) (fun K hK => ?_)
                go_simp
                (refine (hpr _ hbx).mono ?_; rintro e z1 ⟨rfl, hz1⟩; have hy1 := hbx.trans (hz1.mono (by have := hbx.size; omega)))
                try go_wp2_with fail
                refine hK.out _ _ ?_ (fun hHeld => ?_)
                · exact hy1.block _ (by have := hs2; omega)
                clear hK K
                try simp only [Act.put, List.setIfInBounds_toArray, List.set_cons_zero, List.set_cons_succ]
                refine take_one (i := 3) rfl (by kernel_rfl) (fun K hK => ?_)
                go_simp
                (refine (hrf _).mono ?_; rintro e z2 ⟨rfl, hz2⟩; have hy2 := hy1.trans (hz2.mono (by have := hy1.size; omega)))
                try go_wp2_with fail
                refine hK.out _ _ ?_ (fun hHeld => ?_)
                · exact hy2.block _ (by have := hs2; omega)
                clear hK K
                try simp only [Act.put, List.setIfInBounds_toArray, List.set_cons_zero, List.set_cons_succ]
                refine take_on (i := 4) (v := ?_) rfl rfl (by kernel_rfl) (by kernel_rfl) (by kernel_rfl) (fun _ _ _ h => h) rfl ?_ hHeld ?_
                rotate_left
                · (intro wq hSq; have hxq := hSq.trans HX2.out; have y0 := cell_of_row _ _ 0 _ _ _ hxq; have y1 := cell_of_row _ _ 1 _ _ _ hxq; have y2 := cell_of_row _ _ 2 _ _ _ hxq; go_simp <;> first | with_reducible rfl | rfl)
                simp only [Act.put, List.setIfInBounds_toArray, List.set_cons_zero, List.set_cons_succ]
                refine take_on (i := 5) (v := ?_) rfl rfl (by kernel_rfl) (by kernel_rfl) (by kernel_rfl) (fun _ _ _ h => h) rfl ?_ hHeld ?_
                rotate_left
                · (intro wq hSq; have hxq := hSq.trans HX2.out; have y0 := cell_of_row _ _ 0 _ _ _ hxq; have y1 := cell_of_row _ _ 1 _ _ _ hxq; have y2 := cell_of_row _ _ 2 _ _ _ hxq; go_simp <;> first | with_reducible rfl | rfl)
                simp only [Act.put, List.setIfInBounds_toArray, List.set_cons_zero, List.set_cons_succ]
                refine wpAnyH_done (by kernel_rfl) ?_ _
                have HZ := hide_it hy2
                clear hy1 hy2 hz1 hz2 hpr hrf hbx
                go_wp2
                go_roundw
                case rel =>
                  exact ⟨k + 1, C, P, by omega, by go_num, HS2.out.below HZ.out⟩
                case measure => simp [intOf]; omega
              · skip
                by_cases k2 : K = 2
                · subst k2
                  have hpr : Calls Try.prog 10 #[.pointer none] W2 fun e w' => e = .returned (.tuple #[.int .i64 0, .int .i64 1]) ∧ Ticked W2 0 noCk noCk w' := next_any noCk noCk_ok 0 W2 (fun e => by cases e)
                  have hrf : ∀ z, Calls Try.prog 11 #[.agg #[.bool false, .int .i64 0, .int .i64 0]] z fun e w' => e = .returned (.tuple #[.agg #[.bool false, .int .i64 0, .int .i64 0], .int .i64 0, .int .i64 1]) ∧ Below z.heap.size z w' := rnext_any noCk noCk_ok
                  have f2 : W2.cell? ⟨wr.heap.size, 2, none⟩ = some (.int .i64 Av) := cell_of_row _ _ _ _ _ _ ho2
                  go_wp2_with fail
                  try rw [← hW2]
                  clear hW2
                  refine hpr.mono ?_
                  rintro e z1 ⟨rfl, htk⟩
                  clear hpr
                  have hb3 : Below W2.heap.size W2 z1 := htk.chg.below (fun k hk => by cases hk.1) (Nat.le_refl _)
                  have hx3 := (hb3.block (wr.heap.size + 1) (by have := hs2; omega)).trans HX2.out
                  have ho3 := (hb3.block wr.heap.size (by have := hs2; omega)).trans HO2.out
                  have hs3 := HS2.out.below hb3
                  have hsz1 := hb3.size
                  have y0 : z1.cell? ⟨wr.heap.size + 1, 0, none⟩ = some (.bool false) := cell_of_row _ _ _ _ _ _ hx3
                  have y1 : z1.cell? ⟨wr.heap.size + 1, 1, none⟩ = some (.int .i64 0) := cell_of_row _ _ _ _ _ _ hx3
                  have y2 : z1.cell? ⟨wr.heap.size + 1, 2, none⟩ = some (.int .i64 0) := cell_of_row _ _ _ _ _ _ hx3
                  have f3 : z1.cell? ⟨wr.heap.size, 2, none⟩ = some (.int .i64 Av) := cell_of_row _ _ _ _ _ _ ho3
                  clear htk f2
                  go_wp2_with fail
                  refine (hrf z1).mono ?_
                  rintro e z2 ⟨rfl, hz2⟩
                  clear hrf y0 y1 y2 f3
                  have hx4 := (hz2.block (wr.heap.size + 1) (by have := hs2; omega)).trans hx3
                  have hs4 := hs3.below hz2
                  have hsz2 := hz2.size
                  have hwb : w.heap.size ≤ wr.heap.size + 1 := by have := HS.out.bel.size; omega
                  have hxn : wr.heap.size + 1 < z2.heap.size := by omega
                  have hon : wr.heap.size < z2.heap.size := by omega
                  have hhn : h < z2.heap.size := by omega
                  have hqn : q < z2.heap.size := by omega
                  have y0 : z2.cell? ⟨wr.heap.size + 1, 0, none⟩ = some (.bool false) := cell_of_row _ _ _ _ _ _ hx4
                  have y1 : z2.cell? ⟨wr.heap.size + 1, 1, none⟩ = some (.int .i64 0) := cell_of_row _ _ _ _ _ _ hx4
                  have y2 : z2.cell? ⟨wr.heap.size + 1, 2, none⟩ = some (.int .i64 0) := cell_of_row _ _ _ _ _ _ hx4
                  have y5 : ∀ j, z2.frozen? ⟨wr.heap.size + 1, j, none⟩ = false := fun j => frozen_of_row _ _ _ _ _ hx4
                  have t1 := heap_setCell_same _ (wr.heap.size + 1) 0 _ _ (.bool false) hx4
                  have t2 := heap_setCell_same _ (wr.heap.size + 1) 1 _ _ (.int .i64 0) t1
                  have HM := hide_it (((hs4.box hwb hx4 0 (.bool false)).box hwb t1 1 (.int .i64 0)).box hwb t2 2 (.int .i64 0))
                  clear hs4 t1 t2 hx4 hx3 ho3 hz2
                  go_wp2
                  go_roundw
                  case rel =>
                    exact ⟨k + 1, _, _, by omega, by go_num, HM.out.below ((Below.refl _ _).alloc (Nat.le_refl _) _)⟩
                  case measure => simp [intOf]; omega
                · skip
                  by_cases k3 : K = 3
                  · subst k3
                    have hpr : ∀ z, Below W2.heap.size W2 z → Calls Try.prog 12 #[.pointer none] z fun e w' => e = .returned (.bool (worn noCk)) ∧ Below z.heap.size z w' := fun z hz => by
                      refine (worn_any noCk noCk_ok 0 z (fun e => by cases e)).mono ?_
                      rintro e w' ⟨rfl, rfl⟩; exact ⟨rfl, Below.refl _ _⟩
                    have hrf : ∀ z, Calls Try.prog 13 #[.agg #[.bool false, .int .i64 0, .int .i64 0]] z fun e w' => e = .returned (.bool (worn noCk)) ∧ Below z.heap.size z w' := fun z => rworn_any noCk noCk_ok z
                    have hbx := (Below.refl W2.heap.size W2).drew
                    go_wp2_with fail
                    try rw [← hW2]
                    clear hW2
                    refine wp_region_held_drew (S := (fun w' => w'.heap[wr.heap.size + 1]? = W2.heap[wr.heap.size + 1]?)) (by kernel_rfl) ?_ (fun hHeld => ?_)
                    · rfl
                    refine take_on (i := 0) (v := ?_) rfl rfl (by kernel_rfl) (by kernel_rfl) (by kernel_rfl) (fun _ _ _ h => h) rfl ?_ hHeld ?_
                    rotate_left
                    · (intro wq hSq; have hxq := hSq.trans HX2.out; have y0 := cell_of_row _ _ 0 _ _ _ hxq; have y1 := cell_of_row _ _ 1 _ _ _ hxq; have y2 := cell_of_row _ _ 2 _ _ _ hxq; go_simp <;> first | with_reducible rfl | rfl)
                    simp only [Act.put, List.setIfInBounds_toArray, List.set_cons_zero, List.set_cons_succ]
                    refine take_on (i := 2) (v := ?_) rfl rfl (by kernel_rfl) (by kernel_rfl) (by kernel_rfl) (fun _ _ _ h => h) rfl ?_ hHeld ?_
                    rotate_left
                    · (intro wq hSq; have hxq := hSq.trans HX2.out; have y0 := cell_of_row _ _ 0 _ _ _ hxq; have y1 := cell_of_row _ _ 1 _ _ _ hxq; have y2 := cell_of_row _ _ 2 _ _ _ hxq; go_simp <;> first | with_reducible rfl | rfl)
                    simp only [Act.put, List.setIfInBounds_toArray, List.set_cons_zero, List.set_cons_succ]
                    refine take_one (i := 1) rfl (by kernel_rfl) (fun K hK => ?_)
                    go_simp
                    (refine (hpr _ hbx).mono ?_; rintro e z1 ⟨rfl, hz1⟩; have hy1 := hbx.trans (hz1.mono (by have := hbx.size; omega)))
                    try go_wp2_with fail
                    refine hK.out _ _ ?_ (fun hHeld => ?_)
                    · exact hy1.block _ (by have := hs2; omega)
                    clear hK K
                    try simp only [Act.put, List.setIfInBounds_toArray, List.set_cons_zero, List.set_cons_succ]
                    refine take_one (i := 3) rfl (by kernel_rfl) (fun K hK => ?_)
                    go_simp
                    (refine (hrf _).mono ?_; rintro e z2 ⟨rfl, hz2⟩; have hy2 := hy1.trans (hz2.mono (by have := hy1.size; omega)))
                    try go_wp2_with fail
                    refine hK.out _ _ ?_ (fun hHeld => ?_)
                    · exact hy2.block _ (by have := hs2; omega)
                    clear hK K
                    try simp only [Act.put, List.setIfInBounds_toArray, List.set_cons_zero, List.set_cons_succ]
                    refine take_on (i := 4) (v := ?_) rfl rfl (by kernel_rfl) (by kernel_rfl) (by kernel_rfl) (fun _ _ _ h => h) rfl ?_ hHeld ?_
                    rotate_left
                    · (intro wq hSq; have hxq := hSq.trans HX2.out; have y0 := cell_of_row _ _ 0 _ _ _ hxq; have y1 := cell_of_row _ _ 1 _ _ _ hxq; have y2 := cell_of_row _ _ 2 _ _ _ hxq; go_simp <;> first | with_reducible rfl | rfl)
                    simp only [Act.put, List.setIfInBounds_toArray, List.set_cons_zero, List.set_cons_succ]
                    refine take_on (i := 5) (v := ?_) rfl rfl (by kernel_rfl) (by kernel_rfl) (by kernel_rfl) (fun _ _ _ h => h) rfl ?_ hHeld ?_
                    rotate_left
                    · (intro wq hSq; have hxq := hSq.trans HX2.out; have y0 := cell_of_row _ _ 0 _ _ _ hxq; have y1 := cell_of_row _ _ 1 _ _ _ hxq; have y2 := cell_of_row _ _ 2 _ _ _ hxq; go_simp <;> first | with_reducible rfl | rfl)
                    simp only [Act.put, List.setIfInBounds_toArray, List.set_cons_zero, List.set_cons_succ]
                    refine wpAnyH_done (by kernel_rfl) ?_ _
                    have HZ := hide_it hy2
                    clear hy1 hy2 hz1 hz2 hpr hrf hbx
                    go_wp2
                    go_roundw
                    case rel =>
                      exact ⟨k + 1, C, P, by omega, by go_num, HS2.out.below HZ.out⟩
                    case measure => simp [intOf]; omega
                  · skip
                    by_cases k4 : K = 4
                    · subst k4
                      have hpr : Calls Try.prog 14 #[.pointer none, .int .i64 Av] W2 fun e w' => e = .returned (.int .i64 1) ∧ Ticked W2 0 noCk noCk w' := set_any noCk 0 Av W2 (fun e => by cases e)
                      have hrf : ∀ z, Calls Try.prog 15 #[.agg #[.bool false, .int .i64 0, .int .i64 0], .int .i64 Av] z fun e w' => e = .returned (.tuple #[.agg #[.bool false, .int .i64 0, .int .i64 0], .int .i64 1]) ∧ Below z.heap.size z w' := rset_any noCk Av
                      have f2 : W2.cell? ⟨wr.heap.size, 2, none⟩ = some (.int .i64 Av) := cell_of_row _ _ _ _ _ _ ho2
                      go_wp2_with fail
                      try rw [← hW2]
                      clear hW2
                      refine hpr.mono ?_
                      rintro e z1 ⟨rfl, htk⟩
                      clear hpr
                      have hb3 : Below W2.heap.size W2 z1 := htk.chg.below (fun k hk => by cases hk.1) (Nat.le_refl _)
                      have hx3 := (hb3.block (wr.heap.size + 1) (by have := hs2; omega)).trans HX2.out
                      have ho3 := (hb3.block wr.heap.size (by have := hs2; omega)).trans HO2.out
                      have hs3 := HS2.out.below hb3
                      have hsz1 := hb3.size
                      have y0 : z1.cell? ⟨wr.heap.size + 1, 0, none⟩ = some (.bool false) := cell_of_row _ _ _ _ _ _ hx3
                      have y1 : z1.cell? ⟨wr.heap.size + 1, 1, none⟩ = some (.int .i64 0) := cell_of_row _ _ _ _ _ _ hx3
                      have y2 : z1.cell? ⟨wr.heap.size + 1, 2, none⟩ = some (.int .i64 0) := cell_of_row _ _ _ _ _ _ hx3
                      have f3 : z1.cell? ⟨wr.heap.size, 2, none⟩ = some (.int .i64 Av) := cell_of_row _ _ _ _ _ _ ho3
                      clear htk f2
                      go_wp2_with fail
                      refine (hrf z1).mono ?_
                      rintro e z2 ⟨rfl, hz2⟩
                      clear hrf y0 y1 y2 f3
                      have hx4 := (hz2.block (wr.heap.size + 1) (by have := hs2; omega)).trans hx3
                      have hs4 := hs3.below hz2
                      have hsz2 := hz2.size
                      have hwb : w.heap.size ≤ wr.heap.size + 1 := by have := HS.out.bel.size; omega
                      have hxn : wr.heap.size + 1 < z2.heap.size := by omega
                      have hon : wr.heap.size < z2.heap.size := by omega
                      have hhn : h < z2.heap.size := by omega
                      have hqn : q < z2.heap.size := by omega
                      have y0 : z2.cell? ⟨wr.heap.size + 1, 0, none⟩ = some (.bool false) := cell_of_row _ _ _ _ _ _ hx4
                      have y1 : z2.cell? ⟨wr.heap.size + 1, 1, none⟩ = some (.int .i64 0) := cell_of_row _ _ _ _ _ _ hx4
                      have y2 : z2.cell? ⟨wr.heap.size + 1, 2, none⟩ = some (.int .i64 0) := cell_of_row _ _ _ _ _ _ hx4
                      have y5 : ∀ j, z2.frozen? ⟨wr.heap.size + 1, j, none⟩ = false := fun j => frozen_of_row _ _ _ _ _ hx4
                      have t1 := heap_setCell_same _ (wr.heap.size + 1) 0 _ _ (.bool false) hx4
                      have t2 := heap_setCell_same _ (wr.heap.size + 1) 1 _ _ (.int .i64 0) t1
                      have HM := hide_it (((hs4.box hwb hx4 0 (.bool false)).box hwb t1 1 (.int .i64 0)).box hwb t2 2 (.int .i64 0))
                      clear hs4 t1 t2 hx4 hx3 ho3 hz2
                      go_wp2
                      go_roundw
                      case rel =>
                        exact ⟨k + 1, _, _, by omega, by go_num, HM.out.below ((Below.refl _ _).alloc (Nat.le_refl _) _)⟩
                      case measure => simp [intOf]; omega
                    · skip
                      by_cases k5 : K = 5
                      · subst k5
                        have hpr : ∀ z, Below W2.heap.size W2 z → Calls Try.prog 16 #[.pointer none] z fun e w' => e = .returned (.int .i64 (0 - 0)) ∧ Below z.heap.size z w' := fun z hz => by
                          refine (horizon_any noCk noCk_ok 0 z (fun e => by cases e)).mono ?_
                          rintro e w' ⟨rfl, h⟩; exact ⟨rfl, h⟩
                        have hrf : ∀ z, Calls Try.prog 17 #[.agg #[.bool false, .int .i64 0, .int .i64 0]] z fun e w' => e = .returned (.int .i64 (0 - 0)) ∧ Below z.heap.size z w' := fun z => rhorizon_any noCk noCk_ok z
                        have hbx := (Below.refl W2.heap.size W2).drew
                        go_wp2_with fail
                        try rw [← hW2]
                        clear hW2
                        refine wp_region_held_drew (S := (fun w' => w'.heap[wr.heap.size + 1]? = W2.heap[wr.heap.size + 1]?)) (by kernel_rfl) ?_ (fun hHeld => ?_)
                        · rfl
                        refine take_on (i := 0) (v := ?_) rfl rfl (by kernel_rfl) (by kernel_rfl) (by kernel_rfl) (fun _ _ _ h => h) rfl ?_ hHeld ?_
                        rotate_left
                        · (intro wq hSq; have hxq := hSq.trans HX2.out; have y0 := cell_of_row _ _ 0 _ _ _ hxq; have y1 := cell_of_row _ _ 1 _ _ _ hxq; have y2 := cell_of_row _ _ 2 _ _ _ hxq; go_simp <;> first | with_reducible rfl | rfl)
                        simp only [Act.put, List.setIfInBounds_toArray, List.set_cons_zero, List.set_cons_succ]
                        refine take_on (i := 2) (v := ?_) rfl rfl (by kernel_rfl) (by kernel_rfl) (by kernel_rfl) (fun _ _ _ h => h) rfl ?_ hHeld ?_
                        rotate_left
                        · (intro wq hSq; have hxq := hSq.trans HX2.out; have y0 := cell_of_row _ _ 0 _ _ _ hxq; have y1 := cell_of_row _ _ 1 _ _ _ hxq; have y2 := cell_of_row _ _ 2 _ _ _ hxq; go_simp <;> first | with_reducible rfl | rfl)
                        simp only [Act.put, List.setIfInBounds_toArray, List.set_cons_zero, List.set_cons_succ]
                        refine take_one (i := 1) rfl (by kernel_rfl) (fun K hK => ?_)
                        go_simp
                        (refine (hpr _ hbx).mono ?_; rintro e z1 ⟨rfl, hz1⟩; have hy1 := hbx.trans (hz1.mono (by have := hbx.size; omega)))
                        try go_wp2_with fail
                        refine hK.out _ _ ?_ (fun hHeld => ?_)
                        · exact hy1.block _ (by have := hs2; omega)
                        clear hK K
                        try simp only [Act.put, List.setIfInBounds_toArray, List.set_cons_zero, List.set_cons_succ]
                        refine take_one (i := 3) rfl (by kernel_rfl) (fun K hK => ?_)
                        go_simp
                        (refine (hrf _).mono ?_; rintro e z2 ⟨rfl, hz2⟩; have hy2 := hy1.trans (hz2.mono (by have := hy1.size; omega)))
                        try go_wp2_with fail
                        refine hK.out _ _ ?_ (fun hHeld => ?_)
                        · exact hy2.block _ (by have := hs2; omega)
                        clear hK K
                        try simp only [Act.put, List.setIfInBounds_toArray, List.set_cons_zero, List.set_cons_succ]
                        refine take_on (i := 4) (v := ?_) rfl rfl (by kernel_rfl) (by kernel_rfl) (by kernel_rfl) (fun _ _ _ h => h) rfl ?_ hHeld ?_
                        rotate_left
                        · (intro wq hSq; have hxq := hSq.trans HX2.out; have y0 := cell_of_row _ _ 0 _ _ _ hxq; have y1 := cell_of_row _ _ 1 _ _ _ hxq; have y2 := cell_of_row _ _ 2 _ _ _ hxq; go_simp <;> first | with_reducible rfl | rfl)
                        simp only [Act.put, List.setIfInBounds_toArray, List.set_cons_zero, List.set_cons_succ]
                        refine take_on (i := 5) (v := ?_) rfl rfl (by kernel_rfl) (by kernel_rfl) (by kernel_rfl) (fun _ _ _ h => h) rfl ?_ hHeld ?_
                        rotate_left
                        · (intro wq hSq; have hxq := hSq.trans HX2.out; have y0 := cell_of_row _ _ 0 _ _ _ hxq; have y1 := cell_of_row _ _ 1 _ _ _ hxq; have y2 := cell_of_row _ _ 2 _ _ _ hxq; go_simp <;> first | with_reducible rfl | rfl)
                        simp only [Act.put, List.setIfInBounds_toArray, List.set_cons_zero, List.set_cons_succ]
                        refine wpAnyH_done (by kernel_rfl) ?_ _
                        have HZ := hide_it hy2
                        clear hy1 hy2 hz1 hz2 hpr hrf hbx
                        go_wp2
                        go_roundw
                        case rel =>
                          exact ⟨k + 1, C, P, by omega, by go_num, HS2.out.below HZ.out⟩
                        case measure => simp [intOf]; omega
                      · skip
                        have n0 : (K == 0) = false := by simpa using k0
                        have n1 : (K == 1) = false := by simpa using k1
                        have n2 : (K == 2) = false := by simpa using k2
                        have n3 : (K == 3) = false := by simpa using k3
                        have n4 : (K == 4) = false := by simpa using k4
                        have n5 : (K == 5) = false := by simpa using k5
                        clear k0 k1 k2 k3 k4 k5
                        clear hW2
                        go_wp2
                        go_roundw
                        case rel =>
                          exact ⟨k + 1, C, P, by omega, by go_num, HS.out.below (((Below.refl _ _).alloc (Nat.le_refl _) _).alloc (by simp) _)⟩
                        case measure => simp [intOf]; omega
    · have HS := hide_it hS
      clear hS hrow
      go_wp2_with fail
      go_loopw [23] (fun i wr' => ∃ j : Nat, j ≤ 3 ∧ i = .int .i64 j ∧ Sc w wr' h q C P) (fun i _ => 3 - (intOf i).toNat)
      case atStart => exact ⟨0, by omega, rfl, HS.out⟩
      case round =>
        obtain ⟨j, hj, rfl, hS3⟩ := hrel
        by_cases hj3 : j < 3
        · have hji : (j : Int) < 3 := by omega
          have hw1 : IntKind.i64.wrap ((j : Int) + 1) = (j : Int) + 1 := i64_in (by omega) (by omega)
          obtain ⟨x0, x1, x2, x3, _, _⟩ := hS3.cells hj3
          have Hok := hide_it (hS3.ok j hj3)
          have Hpk := hide_it (hS3.pk j hj3)
          generalize C j = c at *
          generalize P j = p at *
          obtain ⟨pp, hV⟩ : ∃ pp, Value.pointer pp = ptrK c p := ⟨_, rfl⟩
          rw [← hV] at x0
          have HV := hide_it hV
          have hlt3 := hS3.lt
          have HS3 := hide_it hS3
          clear hV hS3
          have p1 : ∀ z, Below wr.heap.size wr z → Calls Try.prog 8 #[.pointer pp] z fun e w' => e = .returned (.int .i64 c.n) ∧ Below z.heap.size z w' := fun z hz => by
            rw [HV.out]; refine (now_any c Hok.out p z (Hpk.out.below hz)).mono ?_
            rintro e w' ⟨rfl, rfl⟩; exact ⟨rfl, Below.refl _ _⟩
          have p2 : ∀ z, Below wr.heap.size wr z → Calls Try.prog 16 #[.pointer pp] z fun e w' => e = .returned (.int .i64 (c.n - c.k)) ∧ Below z.heap.size z w' := fun z hz => by
            rw [HV.out]; exact horizon_any c Hok.out p z (Hpk.out.below hz)
          have p3 : ∀ z, Below wr.heap.size wr z → Calls Try.prog 12 #[.pointer pp] z fun e w' => e = .returned (.bool (worn c)) ∧ Below z.heap.size z w' := fun z hz => by
            rw [HV.out]; refine (worn_any c Hok.out p z (Hpk.out.below hz)).mono ?_
            rintro e w' ⟨rfl, rfl⟩; exact ⟨rfl, Below.refl _ _⟩
          have r1 := rnow_any c
          have r2 := rhorizon_any c Hok.out
          have r3 := rworn_any c Hok.out
          unfold valK at r1 r2 r3
          generalize c.n - c.k = H at *
          generalize worn c = B at *
          have hy0 := (Below.refl wr.heap.size wr).drew
          obtain ⟨lh, lq⟩ := hlt3
          go_wp2_with fail
          refine wp_region_held_drew (S := (fun w' => w'.heap[h]? = wr.heap[h]? ∧ w'.heap[q]? = wr.heap[q]?)) (by kernel_rfl) ?_ (fun hHeld => ?_)
          · exact ⟨rfl, rfl⟩
          refine take_on (i := 0) (v := ?_) rfl rfl (by kernel_rfl) (by kernel_rfl) (by kernel_rfl) (fun _ _ _ h => h) rfl ?_ hHeld ?_
          rotate_left
          · (intro wq hSq; have s0 := (World.cell?_of_block (w := wr) (a := ⟨h, j, none⟩) hSq.1).trans x0; have s1 := (World.cell?_of_block (w := wr) (a := ⟨q, j * 3, none⟩) hSq.2).trans x1; have s2 := (World.cell?_of_block (w := wr) (a := ⟨q, j * 3 + 1, none⟩) hSq.2).trans x2; have s3 := (World.cell?_of_block (w := wr) (a := ⟨q, j * 3 + 2, none⟩) hSq.2).trans x3; go_simp <;> first | with_reducible rfl | rfl)
          simp only [Act.put, List.setIfInBounds_toArray, List.set_cons_zero, List.set_cons_succ]
          refine take_on (i := 1) (v := ?_) rfl rfl (by kernel_rfl) (by kernel_rfl) (by kernel_rfl) (fun _ _ _ h => h) rfl ?_ hHeld ?_
          rotate_left
          · (intro wq hSq; have s0 := (World.cell?_of_block (w := wr) (a := ⟨h, j, none⟩) hSq.1).trans x0; have s1 := (World.cell?_of_block (w := wr) (a := ⟨q, j * 3, none⟩) hSq.2).trans x1; have s2 := (World.cell?_of_block (w := wr) (a := ⟨q, j * 3 + 1, none⟩) hSq.2).trans x2; have s3 := (World.cell?_of_block (w := wr) (a := ⟨q, j * 3 + 2, none⟩) hSq.2).trans x3; go_simp <;> first | with_reducible rfl | rfl)
          simp only [Act.put, List.setIfInBounds_toArray, List.set_cons_zero, List.set_cons_succ]
          refine take_on (i := 2) (v := ?_) rfl rfl (by kernel_rfl) (by kernel_rfl) (by kernel_rfl) (fun _ _ _ h => h) rfl ?_ hHeld ?_
          rotate_left
          · (intro wq hSq; have s0 := (World.cell?_of_block (w := wr) (a := ⟨h, j, none⟩) hSq.1).trans x0; have s1 := (World.cell?_of_block (w := wr) (a := ⟨q, j * 3, none⟩) hSq.2).trans x1; have s2 := (World.cell?_of_block (w := wr) (a := ⟨q, j * 3 + 1, none⟩) hSq.2).trans x2; have s3 := (World.cell?_of_block (w := wr) (a := ⟨q, j * 3 + 2, none⟩) hSq.2).trans x3; go_simp <;> first | with_reducible rfl | rfl)
          simp only [Act.put, List.setIfInBounds_toArray, List.set_cons_zero, List.set_cons_succ]
          refine take_on (i := 4) (v := ?_) rfl rfl (by kernel_rfl) (by kernel_rfl) (by kernel_rfl) (fun _ _ _ h => h) rfl ?_ hHeld ?_
          rotate_left
          · (intro wq hSq; have s0 := (World.cell?_of_block (w := wr) (a := ⟨h, j, none⟩) hSq.1).trans x0; have s1 := (World.cell?_of_block (w := wr) (a := ⟨q, j * 3, none⟩) hSq.2).trans x1; have s2 := (World.cell?_of_block (w := wr) (a := ⟨q, j * 3 + 1, none⟩) hSq.2).trans x2; have s3 := (World.cell?_of_block (w := wr) (a := ⟨q, j * 3 + 2, none⟩) hSq.2).trans x3; go_simp <;> first | with_reducible rfl | rfl)
          simp only [Act.put, List.setIfInBounds_toArray, List.set_cons_zero, List.set_cons_succ]
          refine take_on (i := 5) (v := ?_) rfl rfl (by kernel_rfl) (by kernel_rfl) (by kernel_rfl) (fun _ _ _ h => h) rfl ?_ hHeld ?_
          rotate_left
          · (intro wq hSq; have s0 := (World.cell?_of_block (w := wr) (a := ⟨h, j, none⟩) hSq.1).trans x0; have s1 := (World.cell?_of_block (w := wr) (a := ⟨q, j * 3, none⟩) hSq.2).trans x1; have s2 := (World.cell?_of_block (w := wr) (a := ⟨q, j * 3 + 1, none⟩) hSq.2).trans x2; have s3 := (World.cell?_of_block (w := wr) (a := ⟨q, j * 3 + 2, none⟩) hSq.2).trans x3; go_simp <;> first | with_reducible rfl | rfl)
          simp only [Act.put, List.setIfInBounds_toArray, List.set_cons_zero, List.set_cons_succ]
          refine take_on (i := 6) (v := ?_) rfl rfl (by kernel_rfl) (by kernel_rfl) (by kernel_rfl) (fun _ _ _ h => h) rfl ?_ hHeld ?_
          rotate_left
          · (intro wq hSq; have s0 := (World.cell?_of_block (w := wr) (a := ⟨h, j, none⟩) hSq.1).trans x0; have s1 := (World.cell?_of_block (w := wr) (a := ⟨q, j * 3, none⟩) hSq.2).trans x1; have s2 := (World.cell?_of_block (w := wr) (a := ⟨q, j * 3 + 1, none⟩) hSq.2).trans x2; have s3 := (World.cell?_of_block (w := wr) (a := ⟨q, j * 3 + 2, none⟩) hSq.2).trans x3; go_simp <;> first | with_reducible rfl | rfl)
          simp only [Act.put, List.setIfInBounds_toArray, List.set_cons_zero, List.set_cons_succ]
          refine take_one (i := 3) rfl (by kernel_rfl) (fun K hK => ?_)
          go_simp
          (refine (p1 _ hy0).mono ?_; rintro e z1 ⟨rfl, hz1⟩; have hy1 := hy0.trans (hz1.mono (by have := hy0.size; omega)))
          try go_wp2_with fail
          refine hK.out _ _ ?_ (fun hHeld => ?_)
          · exact ⟨hy1.block _ lh, hy1.block _ lq⟩
          clear hK K
          try simp only [Act.put, List.setIfInBounds_toArray, List.set_cons_zero, List.set_cons_succ]
          refine take_one (i := 7) rfl (by kernel_rfl) (fun K hK => ?_)
          go_simp
          (refine (r1 _).mono ?_; rintro e z2 ⟨rfl, hz2⟩; have hy2 := hy1.trans (hz2.mono (by have := hy1.size; omega)))
          try go_wp2_with fail
          refine hK.out _ _ ?_ (fun hHeld => ?_)
          · exact ⟨hy2.block _ lh, hy2.block _ lq⟩
          clear hK K
          try simp only [Act.put, List.setIfInBounds_toArray, List.set_cons_zero, List.set_cons_succ]
          refine take_on (i := 8) (v := ?_) rfl rfl (by kernel_rfl) (by kernel_rfl) (by kernel_rfl) (fun _ _ _ h => h) rfl ?_ hHeld ?_
          rotate_left
          · (intro wq hSq; have s0 := (World.cell?_of_block (w := wr) (a := ⟨h, j, none⟩) hSq.1).trans x0; have s1 := (World.cell?_of_block (w := wr) (a := ⟨q, j * 3, none⟩) hSq.2).trans x1; have s2 := (World.cell?_of_block (w := wr) (a := ⟨q, j * 3 + 1, none⟩) hSq.2).trans x2; have s3 := (World.cell?_of_block (w := wr) (a := ⟨q, j * 3 + 2, none⟩) hSq.2).trans x3; go_simp <;> first | with_reducible rfl | rfl)
          simp only [Act.put, List.setIfInBounds_toArray, List.set_cons_zero, List.set_cons_succ]
          refine take_on (i := 9) (v := ?_) rfl rfl (by kernel_rfl) (by kernel_rfl) (by kernel_rfl) (fun _ _ _ h => h) rfl ?_ hHeld ?_
          rotate_left
          · (intro wq hSq; have s0 := (World.cell?_of_block (w := wr) (a := ⟨h, j, none⟩) hSq.1).trans x0; have s1 := (World.cell?_of_block (w := wr) (a := ⟨q, j * 3, none⟩) hSq.2).trans x1; have s2 := (World.cell?_of_block (w := wr) (a := ⟨q, j * 3 + 1, none⟩) hSq.2).trans x2; have s3 := (World.cell?_of_block (w := wr) (a := ⟨q, j * 3 + 2, none⟩) hSq.2).trans x3; go_simp <;> first | with_reducible rfl | rfl)
          simp only [Act.put, List.setIfInBounds_toArray, List.set_cons_zero, List.set_cons_succ]
          refine take_on (i := 10) (v := ?_) rfl rfl (by kernel_rfl) (by kernel_rfl) (by kernel_rfl) (fun _ _ _ h => h) rfl ?_ hHeld ?_
          rotate_left
          · (intro wq hSq; have s0 := (World.cell?_of_block (w := wr) (a := ⟨h, j, none⟩) hSq.1).trans x0; have s1 := (World.cell?_of_block (w := wr) (a := ⟨q, j * 3, none⟩) hSq.2).trans x1; have s2 := (World.cell?_of_block (w := wr) (a := ⟨q, j * 3 + 1, none⟩) hSq.2).trans x2; have s3 := (World.cell?_of_block (w := wr) (a := ⟨q, j * 3 + 2, none⟩) hSq.2).trans x3; go_simp <;> first | with_reducible rfl | rfl)
          simp only [Act.put, List.setIfInBounds_toArray, List.set_cons_zero, List.set_cons_succ]
          refine take_on (i := 11) (v := ?_) rfl rfl (by kernel_rfl) (by kernel_rfl) (by kernel_rfl) (fun _ _ _ h => h) rfl ?_ hHeld ?_
          rotate_left
          · (intro wq hSq; have s0 := (World.cell?_of_block (w := wr) (a := ⟨h, j, none⟩) hSq.1).trans x0; have s1 := (World.cell?_of_block (w := wr) (a := ⟨q, j * 3, none⟩) hSq.2).trans x1; have s2 := (World.cell?_of_block (w := wr) (a := ⟨q, j * 3 + 1, none⟩) hSq.2).trans x2; have s3 := (World.cell?_of_block (w := wr) (a := ⟨q, j * 3 + 2, none⟩) hSq.2).trans x3; go_simp <;> first | with_reducible rfl | rfl)
          simp only [Act.put, List.setIfInBounds_toArray, List.set_cons_zero, List.set_cons_succ]
          refine take_on (i := 12) (v := ?_) rfl rfl (by kernel_rfl) (by kernel_rfl) (by kernel_rfl) (fun _ _ _ h => h) rfl ?_ hHeld ?_
          rotate_left
          · (intro wq hSq; have s0 := (World.cell?_of_block (w := wr) (a := ⟨h, j, none⟩) hSq.1).trans x0; have s1 := (World.cell?_of_block (w := wr) (a := ⟨q, j * 3, none⟩) hSq.2).trans x1; have s2 := (World.cell?_of_block (w := wr) (a := ⟨q, j * 3 + 1, none⟩) hSq.2).trans x2; have s3 := (World.cell?_of_block (w := wr) (a := ⟨q, j * 3 + 2, none⟩) hSq.2).trans x3; go_simp <;> first | with_reducible rfl | rfl)
          simp only [Act.put, List.setIfInBounds_toArray, List.set_cons_zero, List.set_cons_succ]
          refine take_on (i := 14) (v := ?_) rfl rfl (by kernel_rfl) (by kernel_rfl) (by kernel_rfl) (fun _ _ _ h => h) rfl ?_ hHeld ?_
          rotate_left
          · (intro wq hSq; have s0 := (World.cell?_of_block (w := wr) (a := ⟨h, j, none⟩) hSq.1).trans x0; have s1 := (World.cell?_of_block (w := wr) (a := ⟨q, j * 3, none⟩) hSq.2).trans x1; have s2 := (World.cell?_of_block (w := wr) (a := ⟨q, j * 3 + 1, none⟩) hSq.2).trans x2; have s3 := (World.cell?_of_block (w := wr) (a := ⟨q, j * 3 + 2, none⟩) hSq.2).trans x3; go_simp <;> first | with_reducible rfl | rfl)
          simp only [Act.put, List.setIfInBounds_toArray, List.set_cons_zero, List.set_cons_succ]
          refine take_on (i := 15) (v := ?_) rfl rfl (by kernel_rfl) (by kernel_rfl) (by kernel_rfl) (fun _ _ _ h => h) rfl ?_ hHeld ?_
          rotate_left
          · (intro wq hSq; have s0 := (World.cell?_of_block (w := wr) (a := ⟨h, j, none⟩) hSq.1).trans x0; have s1 := (World.cell?_of_block (w := wr) (a := ⟨q, j * 3, none⟩) hSq.2).trans x1; have s2 := (World.cell?_of_block (w := wr) (a := ⟨q, j * 3 + 1, none⟩) hSq.2).trans x2; have s3 := (World.cell?_of_block (w := wr) (a := ⟨q, j * 3 + 2, none⟩) hSq.2).trans x3; go_simp <;> first | with_reducible rfl | rfl)
          simp only [Act.put, List.setIfInBounds_toArray, List.set_cons_zero, List.set_cons_succ]
          refine take_on (i := 16) (v := ?_) rfl rfl (by kernel_rfl) (by kernel_rfl) (by kernel_rfl) (fun _ _ _ h => h) rfl ?_ hHeld ?_
          rotate_left
          · (intro wq hSq; have s0 := (World.cell?_of_block (w := wr) (a := ⟨h, j, none⟩) hSq.1).trans x0; have s1 := (World.cell?_of_block (w := wr) (a := ⟨q, j * 3, none⟩) hSq.2).trans x1; have s2 := (World.cell?_of_block (w := wr) (a := ⟨q, j * 3 + 1, none⟩) hSq.2).trans x2; have s3 := (World.cell?_of_block (w := wr) (a := ⟨q, j * 3 + 2, none⟩) hSq.2).trans x3; go_simp <;> first | with_reducible rfl | rfl)
          simp only [Act.put, List.setIfInBounds_toArray, List.set_cons_zero, List.set_cons_succ]
          refine take_one (i := 13) rfl (by kernel_rfl) (fun K hK => ?_)
          go_simp
          (refine (p2 _ hy2).mono ?_; rintro e z3 ⟨rfl, hz3⟩; have hy3 := hy2.trans (hz3.mono (by have := hy2.size; omega)))
          try go_wp2_with fail
          refine hK.out _ _ ?_ (fun hHeld => ?_)
          · exact ⟨hy3.block _ lh, hy3.block _ lq⟩
          clear hK K
          try simp only [Act.put, List.setIfInBounds_toArray, List.set_cons_zero, List.set_cons_succ]
          refine take_one (i := 17) rfl (by kernel_rfl) (fun K hK => ?_)
          go_simp
          (refine (r2 _).mono ?_; rintro e z4 ⟨rfl, hz4⟩; have hy4 := hy3.trans (hz4.mono (by have := hy3.size; omega)))
          try go_wp2_with fail
          refine hK.out _ _ ?_ (fun hHeld => ?_)
          · exact ⟨hy4.block _ lh, hy4.block _ lq⟩
          clear hK K
          try simp only [Act.put, List.setIfInBounds_toArray, List.set_cons_zero, List.set_cons_succ]
          refine take_on (i := 18) (v := ?_) rfl rfl (by kernel_rfl) (by kernel_rfl) (by kernel_rfl) (fun _ _ _ h => h) rfl ?_ hHeld ?_
          rotate_left
          · (intro wq hSq; have s0 := (World.cell?_of_block (w := wr) (a := ⟨h, j, none⟩) hSq.1).trans x0; have s1 := (World.cell?_of_block (w := wr) (a := ⟨q, j * 3, none⟩) hSq.2).trans x1; have s2 := (World.cell?_of_block (w := wr) (a := ⟨q, j * 3 + 1, none⟩) hSq.2).trans x2; have s3 := (World.cell?_of_block (w := wr) (a := ⟨q, j * 3 + 2, none⟩) hSq.2).trans x3; go_simp <;> first | with_reducible rfl | rfl)
          simp only [Act.put, List.setIfInBounds_toArray, List.set_cons_zero, List.set_cons_succ]
          refine take_on (i := 19) (v := ?_) rfl rfl (by kernel_rfl) (by kernel_rfl) (by kernel_rfl) (fun _ _ _ h => h) rfl ?_ hHeld ?_
          rotate_left
          · (intro wq hSq; have s0 := (World.cell?_of_block (w := wr) (a := ⟨h, j, none⟩) hSq.1).trans x0; have s1 := (World.cell?_of_block (w := wr) (a := ⟨q, j * 3, none⟩) hSq.2).trans x1; have s2 := (World.cell?_of_block (w := wr) (a := ⟨q, j * 3 + 1, none⟩) hSq.2).trans x2; have s3 := (World.cell?_of_block (w := wr) (a := ⟨q, j * 3 + 2, none⟩) hSq.2).trans x3; go_simp <;> first | with_reducible rfl | rfl)
          simp only [Act.put, List.setIfInBounds_toArray, List.set_cons_zero, List.set_cons_succ]
          refine take_on (i := 20) (v := ?_) rfl rfl (by kernel_rfl) (by kernel_rfl) (by kernel_rfl) (fun _ _ _ h => h) rfl ?_ hHeld ?_
          rotate_left
          · (intro wq hSq; have s0 := (World.cell?_of_block (w := wr) (a := ⟨h, j, none⟩) hSq.1).trans x0; have s1 := (World.cell?_of_block (w := wr) (a := ⟨q, j * 3, none⟩) hSq.2).trans x1; have s2 := (World.cell?_of_block (w := wr) (a := ⟨q, j * 3 + 1, none⟩) hSq.2).trans x2; have s3 := (World.cell?_of_block (w := wr) (a := ⟨q, j * 3 + 2, none⟩) hSq.2).trans x3; go_simp <;> first | with_reducible rfl | rfl)
          simp only [Act.put, List.setIfInBounds_toArray, List.set_cons_zero, List.set_cons_succ]
          refine take_on (i := 21) (v := ?_) rfl rfl (by kernel_rfl) (by kernel_rfl) (by kernel_rfl) (fun _ _ _ h => h) rfl ?_ hHeld ?_
          rotate_left
          · (intro wq hSq; have s0 := (World.cell?_of_block (w := wr) (a := ⟨h, j, none⟩) hSq.1).trans x0; have s1 := (World.cell?_of_block (w := wr) (a := ⟨q, j * 3, none⟩) hSq.2).trans x1; have s2 := (World.cell?_of_block (w := wr) (a := ⟨q, j * 3 + 1, none⟩) hSq.2).trans x2; have s3 := (World.cell?_of_block (w := wr) (a := ⟨q, j * 3 + 2, none⟩) hSq.2).trans x3; go_simp <;> first | with_reducible rfl | rfl)
          simp only [Act.put, List.setIfInBounds_toArray, List.set_cons_zero, List.set_cons_succ]
          refine take_on (i := 22) (v := ?_) rfl rfl (by kernel_rfl) (by kernel_rfl) (by kernel_rfl) (fun _ _ _ h => h) rfl ?_ hHeld ?_
          rotate_left
          · (intro wq hSq; have s0 := (World.cell?_of_block (w := wr) (a := ⟨h, j, none⟩) hSq.1).trans x0; have s1 := (World.cell?_of_block (w := wr) (a := ⟨q, j * 3, none⟩) hSq.2).trans x1; have s2 := (World.cell?_of_block (w := wr) (a := ⟨q, j * 3 + 1, none⟩) hSq.2).trans x2; have s3 := (World.cell?_of_block (w := wr) (a := ⟨q, j * 3 + 2, none⟩) hSq.2).trans x3; go_simp <;> first | with_reducible rfl | rfl)
          simp only [Act.put, List.setIfInBounds_toArray, List.set_cons_zero, List.set_cons_succ]
          refine take_on (i := 23) (v := ?_) rfl rfl (by kernel_rfl) (by kernel_rfl) (by kernel_rfl) (fun _ _ _ h => h) rfl ?_ hHeld ?_
          rotate_left
          · (intro wq hSq; have s0 := (World.cell?_of_block (w := wr) (a := ⟨h, j, none⟩) hSq.1).trans x0; have s1 := (World.cell?_of_block (w := wr) (a := ⟨q, j * 3, none⟩) hSq.2).trans x1; have s2 := (World.cell?_of_block (w := wr) (a := ⟨q, j * 3 + 1, none⟩) hSq.2).trans x2; have s3 := (World.cell?_of_block (w := wr) (a := ⟨q, j * 3 + 2, none⟩) hSq.2).trans x3; go_simp <;> first | with_reducible rfl | rfl)
          simp only [Act.put, List.setIfInBounds_toArray, List.set_cons_zero, List.set_cons_succ]
          refine take_on (i := 25) (v := ?_) rfl rfl (by kernel_rfl) (by kernel_rfl) (by kernel_rfl) (fun _ _ _ h => h) rfl ?_ hHeld ?_
          rotate_left
          · (intro wq hSq; have s0 := (World.cell?_of_block (w := wr) (a := ⟨h, j, none⟩) hSq.1).trans x0; have s1 := (World.cell?_of_block (w := wr) (a := ⟨q, j * 3, none⟩) hSq.2).trans x1; have s2 := (World.cell?_of_block (w := wr) (a := ⟨q, j * 3 + 1, none⟩) hSq.2).trans x2; have s3 := (World.cell?_of_block (w := wr) (a := ⟨q, j * 3 + 2, none⟩) hSq.2).trans x3; go_simp <;> first | with_reducible rfl | rfl)
          simp only [Act.put, List.setIfInBounds_toArray, List.set_cons_zero, List.set_cons_succ]
          refine take_on (i := 26) (v := ?_) rfl rfl (by kernel_rfl) (by kernel_rfl) (by kernel_rfl) (fun _ _ _ h => h) rfl ?_ hHeld ?_
          rotate_left
          · (intro wq hSq; have s0 := (World.cell?_of_block (w := wr) (a := ⟨h, j, none⟩) hSq.1).trans x0; have s1 := (World.cell?_of_block (w := wr) (a := ⟨q, j * 3, none⟩) hSq.2).trans x1; have s2 := (World.cell?_of_block (w := wr) (a := ⟨q, j * 3 + 1, none⟩) hSq.2).trans x2; have s3 := (World.cell?_of_block (w := wr) (a := ⟨q, j * 3 + 2, none⟩) hSq.2).trans x3; go_simp <;> first | with_reducible rfl | rfl)
          simp only [Act.put, List.setIfInBounds_toArray, List.set_cons_zero, List.set_cons_succ]
          refine take_on (i := 27) (v := ?_) rfl rfl (by kernel_rfl) (by kernel_rfl) (by kernel_rfl) (fun _ _ _ h => h) rfl ?_ hHeld ?_
          rotate_left
          · (intro wq hSq; have s0 := (World.cell?_of_block (w := wr) (a := ⟨h, j, none⟩) hSq.1).trans x0; have s1 := (World.cell?_of_block (w := wr) (a := ⟨q, j * 3, none⟩) hSq.2).trans x1; have s2 := (World.cell?_of_block (w := wr) (a := ⟨q, j * 3 + 1, none⟩) hSq.2).trans x2; have s3 := (World.cell?_of_block (w := wr) (a := ⟨q, j * 3 + 2, none⟩) hSq.2).trans x3; go_simp <;> first | with_reducible rfl | rfl)
          simp only [Act.put, List.setIfInBounds_toArray, List.set_cons_zero, List.set_cons_succ]
          refine take_one (i := 24) rfl (by kernel_rfl) (fun K hK => ?_)
          go_simp
          (refine (p3 _ hy4).mono ?_; rintro e z5 ⟨rfl, hz5⟩; have hy5 := hy4.trans (hz5.mono (by have := hy4.size; omega)))
          try go_wp2_with fail
          refine hK.out _ _ ?_ (fun hHeld => ?_)
          · exact ⟨hy5.block _ lh, hy5.block _ lq⟩
          clear hK K
          try simp only [Act.put, List.setIfInBounds_toArray, List.set_cons_zero, List.set_cons_succ]
          refine take_one (i := 28) rfl (by kernel_rfl) (fun K hK => ?_)
          go_simp
          (refine (r3 _).mono ?_; rintro e z6 ⟨rfl, hz6⟩; have hy6 := hy5.trans (hz6.mono (by have := hy5.size; omega)))
          try go_wp2_with fail
          refine hK.out _ _ ?_ (fun hHeld => ?_)
          · exact ⟨hy6.block _ lh, hy6.block _ lq⟩
          clear hK K
          try simp only [Act.put, List.setIfInBounds_toArray, List.set_cons_zero, List.set_cons_succ]
          refine take_on (i := 29) (v := ?_) rfl rfl (by kernel_rfl) (by kernel_rfl) (by kernel_rfl) (fun _ _ _ h => h) rfl ?_ hHeld ?_
          rotate_left
          · (intro wq hSq; have s0 := (World.cell?_of_block (w := wr) (a := ⟨h, j, none⟩) hSq.1).trans x0; have s1 := (World.cell?_of_block (w := wr) (a := ⟨q, j * 3, none⟩) hSq.2).trans x1; have s2 := (World.cell?_of_block (w := wr) (a := ⟨q, j * 3 + 1, none⟩) hSq.2).trans x2; have s3 := (World.cell?_of_block (w := wr) (a := ⟨q, j * 3 + 2, none⟩) hSq.2).trans x3; go_simp <;> first | with_reducible rfl | rfl)
          simp only [Act.put, List.setIfInBounds_toArray, List.set_cons_zero, List.set_cons_succ]
          refine take_on (i := 30) (v := ?_) rfl rfl (by kernel_rfl) (by kernel_rfl) (by kernel_rfl) (fun _ _ _ h => h) rfl ?_ hHeld ?_
          rotate_left
          · (intro wq hSq; have s0 := (World.cell?_of_block (w := wr) (a := ⟨h, j, none⟩) hSq.1).trans x0; have s1 := (World.cell?_of_block (w := wr) (a := ⟨q, j * 3, none⟩) hSq.2).trans x1; have s2 := (World.cell?_of_block (w := wr) (a := ⟨q, j * 3 + 1, none⟩) hSq.2).trans x2; have s3 := (World.cell?_of_block (w := wr) (a := ⟨q, j * 3 + 2, none⟩) hSq.2).trans x3; go_simp <;> first | with_reducible rfl | rfl)
          simp only [Act.put, List.setIfInBounds_toArray, List.set_cons_zero, List.set_cons_succ]
          refine wpAnyH_done (by kernel_rfl) ?_ _
          have HY := hide_it hy6
          clear hy0 hy1 hy2 hy3 hy4 hy5 hy6 hz1 hz2 hz3 hz4 hz5 hz6 p1 p2 p3 r1 r2 r3
          go_wp2
          go_roundw
          case rel => exact ⟨j + 1, by omega, by go_num, HS3.out.below HY.out⟩
          case measure => simp [intOf]; omega
        · have HB := hide_it hS3.bel
          clear hS3
          go_wp2
          go_ret
          exact ⟨rfl, HB.out⟩
end Go.Proofs.Ythlkegemkkepgaa.stampClock
