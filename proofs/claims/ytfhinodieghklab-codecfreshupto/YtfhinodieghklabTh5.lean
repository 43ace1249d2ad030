/- Things as the document lays them. -/
import Derived.Test.YtfhinodieghklabTh3
import Derived.Test.YtfhinodieghklabBy3
namespace Go.Proofs.Ytfhinodieghklab
open Go.RowKit

theorem beP_mod {W v : Nat} : beP W (v % 256 ^ W) W = beP W v W := by
  unfold beP
  apply List.map_congr_left
  intro t ht
  have ht : t < W := List.mem_range.1 ht
  have e : 256 ^ W = 256 ^ (W - 1 - t) * 256 ^ (t + 1) := by rw [← Nat.pow_add]; congr 1; omega
  rw [e, Nat.mod_mul_right_div_self]
  exact Nat.mod_mod_of_dvd _ ⟨256 ^ t, by rw [Nat.pow_succ, Nat.mul_comm]⟩
set_option maxRecDepth 100000 in
set_option maxHeartbeats 400000 in
theorem want0 (a : Option Addr) (cap : Nat) (zs : List Nat) (t : Thing) (w : World) (ht : t.Ok) (hk : t.k = 0) (_hp : RowB w t.a t.p) (hr : RowB w a zs) (hl : zs.length + 1048586 ≤ 140737488355328) (hnil : a = none → zs.length = 0 ∧ cap = 0) :
    Calls Try.prog 31 #[.slice a zs.length cap, thingV t] w fun e w' => Laid w (zs ++ t.enc) e w' := by
  have hb := thing_below w t
  have HE : Hid (t.enc = beP 1 t.v 1) := by unfold Hid Thing.enc; rw [if_pos hk]; exact beP_mod (W := 1)
  have hx : ∀ W, RowB W a zs → Calls Try.prog 59 #[.slice a zs.length cap, .int .u64 (t.v : Int), .int .i64 (IntKind.i64.wrap 1)] W fun e w' => (∃ r, e = .returned r ∧ OwnB w' W.heap.size r (zs ++ beP 1 t.v 1)) ∧ Below W.heap.size W w' := fun W h => rput_any a cap t.v 1 zs W ht.v64 (by omega) h (by omega) hnil
  clear ht _hp
  obtain ⟨k, v, n, p, ta, tc⟩ := t
  simp only at hk
  subst hk
  have f0 : (w.alloc (.cells #[.int .i64 0, .int .u64 (v : Int), .int .i64 n, .slice ta p.length tc] 26)).cell? ⟨w.heap.size, 0, none⟩ = some (.int .i64 0) := by rw [cell_of_row _ _ _ _ _ _ (heap_alloc_new w _)]; rfl
  have f1 : (w.alloc (.cells #[.int .i64 0, .int .u64 (v : Int), .int .i64 n, .slice ta p.length tc] 26)).cell? ⟨w.heap.size, 1, none⟩ = some (.int .u64 (v : Int)) := by rw [cell_of_row _ _ _ _ _ _ (heap_alloc_new w _)]; rfl
  have hbW : Below w.heap.size w (w.alloc (.cells #[.int .i64 0, .int .u64 (v : Int), .int .i64 n, .slice ta p.length tc] 26)) := hb
  obtain ⟨W0, hW0⟩ : ∃ W0, W0 = w.alloc (.cells #[.int .i64 0, .int .u64 (v : Int), .int .i64 n, .slice ta p.length tc] 26) := ⟨_, rfl⟩
  have hs0 : W0.heap.size = w.heap.size + 1 := by rw [hW0]; simp
  have hlw : w.heap.size < W0.heap.size := by omega
  rw [← hW0] at f0 f1 hbW
  clear hb
  go_enter Try.func31, Try.ntmps31
  go_wp2_with fail
  rw [← hW0]
  clear hW0
  refine wp_region_held_drew (S := (fun w' => Below W0.heap.size W0 w')) (by kernel_rfl) ?_ (fun hHeld => ?_)
  · exact (Below.refl _ _).drew
  refine take_on (i := 0) (v := ?_) rfl rfl (by kernel_rfl) (by kernel_rfl) (by kernel_rfl) (fun _ _ _ h => h) rfl ?_ hHeld ?_
  rotate_left
  · (intro wq hSq; have hq0 := (hSq.cell (p := ⟨w.heap.size, 0, none⟩) hlw).trans f0; have hq1 := (hSq.cell (p := ⟨w.heap.size, 1, none⟩) hlw).trans f1; go_simp <;> first | with_reducible rfl | rfl)
  simp only [Act.put, List.setIfInBounds_toArray, List.set_cons_zero, List.set_cons_succ]
  refine take_on (i := 1) (v := ?_) rfl rfl (by kernel_rfl) (by kernel_rfl) (by kernel_rfl) (fun _ _ _ h => h) rfl ?_ hHeld ?_
  rotate_left
  · (intro wq hSq; have hq0 := (hSq.cell (p := ⟨w.heap.size, 0, none⟩) hlw).trans f0; have hq1 := (hSq.cell (p := ⟨w.heap.size, 1, none⟩) hlw).trans f1; go_simp <;> first | with_reducible rfl | rfl)
  simp only [Act.put, List.setIfInBounds_toArray, List.set_cons_zero, List.set_cons_succ]
  refine take_on (i := 2) (v := ?_) rfl rfl (by kernel_rfl) (by kernel_rfl) (by kernel_rfl) (fun _ _ _ h => h) rfl ?_ hHeld ?_
  rotate_left
  · (intro wq hSq; have hq0 := (hSq.cell (p := ⟨w.heap.size, 0, none⟩) hlw).trans f0; have hq1 := (hSq.cell (p := ⟨w.heap.size, 1, none⟩) hlw).trans f1; go_simp <;> first | with_reducible rfl | rfl)
  simp only [Act.put, List.setIfInBounds_toArray, List.set_cons_zero, List.set_cons_succ]
  refine take_on (i := 3) (v := ?_) rfl rfl (by kernel_rfl) (by kernel_rfl) (by kernel_rfl) (fun _ _ _ h => h) rfl ?_ hHeld ?_
  rotate_left
  · (intro wq hSq; have hq0 := (hSq.cell (p := ⟨w.heap.size, 0, none⟩) hlw).trans f0; have hq1 := (hSq.cell (p := ⟨w.heap.size, 1, none⟩) hlw).trans f1; go_simp <;> first | with_reducible rfl | rfl)
  simp only [Act.put, List.setIfInBounds_toArray, List.set_cons_zero, List.set_cons_succ]
  refine take_on (i := 4) (v := ?_) rfl rfl (by kernel_rfl) (by kernel_rfl) (by kernel_rfl) (fun _ _ _ h => h) rfl ?_ hHeld ?_
  rotate_left
  · (intro wq hSq; have hq0 := (hSq.cell (p := ⟨w.heap.size, 0, none⟩) hlw).trans f0; have hq1 := (hSq.cell (p := ⟨w.heap.size, 1, none⟩) hlw).trans f1; go_simp <;> first | with_reducible rfl | rfl)
  simp only [Act.put, List.setIfInBounds_toArray, List.set_cons_zero, List.set_cons_succ]
  refine take_on (i := 5) (v := ?_) rfl rfl (by kernel_rfl) (by kernel_rfl) (by kernel_rfl) (fun _ _ _ h => h) rfl ?_ hHeld ?_
  rotate_left
  · (intro wq hSq; have hq0 := (hSq.cell (p := ⟨w.heap.size, 0, none⟩) hlw).trans f0; have hq1 := (hSq.cell (p := ⟨w.heap.size, 1, none⟩) hlw).trans f1; go_simp <;> first | with_reducible rfl | rfl)
  simp only [Act.put, List.setIfInBounds_toArray, List.set_cons_zero, List.set_cons_succ]
  refine take_one (i := 6) rfl (by kernel_rfl) (fun K hK => ?_)
  go_simp
  refine (hx _ ((hr.below hbW).below hHeld)).mono ?_; rintro e w1 ⟨⟨r, rfl, ho⟩, hb1⟩; have hH1 := hHeld; have hH2 := hHeld.trans (hb1.mono hHeld.size)
  try go_wp2_with fail
  refine hK.out _ _ ?_ (fun hHeld => ?_)
  · exact hH2
  clear hK K
  try simp only [Act.put, List.setIfInBounds_toArray, List.set_cons_zero, List.set_cons_succ]
  refine take_on (i := 7) (v := ?_) rfl rfl (by kernel_rfl) (by kernel_rfl) (by kernel_rfl) (fun _ _ _ h => h) rfl ?_ hHeld ?_
  rotate_left
  · (intro wq hSq; have hq0 := (hSq.cell (p := ⟨w.heap.size, 0, none⟩) hlw).trans f0; have hq1 := (hSq.cell (p := ⟨w.heap.size, 1, none⟩) hlw).trans f1; go_simp <;> first | with_reducible rfl | rfl)
  simp only [Act.put, List.setIfInBounds_toArray, List.set_cons_zero, List.set_cons_succ]
  refine wpAnyH_done (by kernel_rfl) ?_ _
  go_wp2_with fail
  go_ret
  rw [← HE.out] at ho
  exact ⟨⟨r, rfl, ho.mono (by have := hH1.size; omega)⟩, hbW.trans (hHeld.mono (by omega))⟩
set_option maxRecDepth 100000 in
set_option maxHeartbeats 400000 in
theorem want1 (a : Option Addr) (cap : Nat) (zs : List Nat) (t : Thing) (w : World) (ht : t.Ok) (hk : t.k = 1) (_hp : RowB w t.a t.p) (hr : RowB w a zs) (hl : zs.length + 1048586 ≤ 140737488355328) (hnil : a = none → zs.length = 0 ∧ cap = 0) :
    Calls Try.prog 31 #[.slice a zs.length cap, thingV t] w fun e w' => Laid w (zs ++ t.enc) e w' := by
  have hb := thing_below w t
  have HE : Hid (t.enc = beP 2 t.v 2) := by unfold Hid Thing.enc; rw [if_neg (by omega), if_pos hk]; exact beP_mod (W := 2)
  have hx : ∀ W, RowB W a zs → Calls Try.prog 59 #[.slice a zs.length cap, .int .u64 (t.v : Int), .int .i64 (IntKind.i64.wrap 2)] W fun e w' => (∃ r, e = .returned r ∧ OwnB w' W.heap.size r (zs ++ beP 2 t.v 2)) ∧ Below W.heap.size W w' := fun W h => rput_any a cap t.v 2 zs W ht.v64 (by omega) h (by omega) hnil
  clear ht _hp
  obtain ⟨k, v, n, p, ta, tc⟩ := t
  simp only at hk
  subst hk
  have f0 : (w.alloc (.cells #[.int .i64 1, .int .u64 (v : Int), .int .i64 n, .slice ta p.length tc] 26)).cell? ⟨w.heap.size, 0, none⟩ = some (.int .i64 1) := by rw [cell_of_row _ _ _ _ _ _ (heap_alloc_new w _)]; rfl
  have f1 : (w.alloc (.cells #[.int .i64 1, .int .u64 (v : Int), .int .i64 n, .slice ta p.length tc] 26)).cell? ⟨w.heap.size, 1, none⟩ = some (.int .u64 (v : Int)) := by rw [cell_of_row _ _ _ _ _ _ (heap_alloc_new w _)]; rfl
  have hbW : Below w.heap.size w (w.alloc (.cells #[.int .i64 1, .int .u64 (v : Int), .int .i64 n, .slice ta p.length tc] 26)) := hb
  obtain ⟨W0, hW0⟩ : ∃ W0, W0 = w.alloc (.cells #[.int .i64 1, .int .u64 (v : Int), .int .i64 n, .slice ta p.length tc] 26) := ⟨_, rfl⟩
  have hs0 : W0.heap.size = w.heap.size + 1 := by rw [hW0]; simp
  have hlw : w.heap.size < W0.heap.size := by omega
  rw [← hW0] at f0 f1 hbW
  clear hb
  go_enter Try.func31, Try.ntmps31
  go_wp2_with fail
  rw [← hW0]
  clear hW0
  refine wp_region_held_drew (S := (fun w' => Below W0.heap.size W0 w')) (by kernel_rfl) ?_ (fun hHeld => ?_)
  · exact (Below.refl _ _).drew
  refine take_on (i := 0) (v := ?_) rfl rfl (by kernel_rfl) (by kernel_rfl) (by kernel_rfl) (fun _ _ _ h => h) rfl ?_ hHeld ?_
  rotate_left
  · (intro wq hSq; have hq0 := (hSq.cell (p := ⟨w.heap.size, 0, none⟩) hlw).trans f0; have hq1 := (hSq.cell (p := ⟨w.heap.size, 1, none⟩) hlw).trans f1; go_simp <;> first | with_reducible rfl | rfl)
  simp only [Act.put, List.setIfInBounds_toArray, List.set_cons_zero, List.set_cons_succ]
  refine take_on (i := 1) (v := ?_) rfl rfl (by kernel_rfl) (by kernel_rfl) (by kernel_rfl) (fun _ _ _ h => h) rfl ?_ hHeld ?_
  rotate_left
  · (intro wq hSq; have hq0 := (hSq.cell (p := ⟨w.heap.size, 0, none⟩) hlw).trans f0; have hq1 := (hSq.cell (p := ⟨w.heap.size, 1, none⟩) hlw).trans f1; go_simp <;> first | with_reducible rfl | rfl)
  simp only [Act.put, List.setIfInBounds_toArray, List.set_cons_zero, List.set_cons_succ]
  refine take_on (i := 2) (v := ?_) rfl rfl (by kernel_rfl) (by kernel_rfl) (by kernel_rfl) (fun _ _ _ h => h) rfl ?_ hHeld ?_
  rotate_left
  · (intro wq hSq; have hq0 := (hSq.cell (p := ⟨w.heap.size, 0, none⟩) hlw).trans f0; have hq1 := (hSq.cell (p := ⟨w.heap.size, 1, none⟩) hlw).trans f1; go_simp <;> first | with_reducible rfl | rfl)
  simp only [Act.put, List.setIfInBounds_toArray, List.set_cons_zero, List.set_cons_succ]
  refine take_on (i := 3) (v := ?_) rfl rfl (by kernel_rfl) (by kernel_rfl) (by kernel_rfl) (fun _ _ _ h => h) rfl ?_ hHeld ?_
  rotate_left
  · (intro wq hSq; have hq0 := (hSq.cell (p := ⟨w.heap.size, 0, none⟩) hlw).trans f0; have hq1 := (hSq.cell (p := ⟨w.heap.size, 1, none⟩) hlw).trans f1; go_simp <;> first | with_reducible rfl | rfl)
  simp only [Act.put, List.setIfInBounds_toArray, List.set_cons_zero, List.set_cons_succ]
  refine take_on (i := 4) (v := ?_) rfl rfl (by kernel_rfl) (by kernel_rfl) (by kernel_rfl) (fun _ _ _ h => h) rfl ?_ hHeld ?_
  rotate_left
  · (intro wq hSq; have hq0 := (hSq.cell (p := ⟨w.heap.size, 0, none⟩) hlw).trans f0; have hq1 := (hSq.cell (p := ⟨w.heap.size, 1, none⟩) hlw).trans f1; go_simp <;> first | with_reducible rfl | rfl)
  simp only [Act.put, List.setIfInBounds_toArray, List.set_cons_zero, List.set_cons_succ]
  refine take_on (i := 5) (v := ?_) rfl rfl (by kernel_rfl) (by kernel_rfl) (by kernel_rfl) (fun _ _ _ h => h) rfl ?_ hHeld ?_
  rotate_left
  · (intro wq hSq; have hq0 := (hSq.cell (p := ⟨w.heap.size, 0, none⟩) hlw).trans f0; have hq1 := (hSq.cell (p := ⟨w.heap.size, 1, none⟩) hlw).trans f1; go_simp <;> first | with_reducible rfl | rfl)
  simp only [Act.put, List.setIfInBounds_toArray, List.set_cons_zero, List.set_cons_succ]
  refine take_one (i := 6) rfl (by kernel_rfl) (fun K hK => ?_)
  go_simp
  refine (hx _ ((hr.below hbW).below hHeld)).mono ?_; rintro e w1 ⟨⟨r, rfl, ho⟩, hb1⟩; have hH1 := hHeld; have hH2 := hHeld.trans (hb1.mono hHeld.size)
  try go_wp2_with fail
  refine hK.out _ _ ?_ (fun hHeld => ?_)
  · exact hH2
  clear hK K
  try simp only [Act.put, List.setIfInBounds_toArray, List.set_cons_zero, List.set_cons_succ]
  refine take_on (i := 7) (v := ?_) rfl rfl (by kernel_rfl) (by kernel_rfl) (by kernel_rfl) (fun _ _ _ h => h) rfl ?_ hHeld ?_
  rotate_left
  · (intro wq hSq; have hq0 := (hSq.cell (p := ⟨w.heap.size, 0, none⟩) hlw).trans f0; have hq1 := (hSq.cell (p := ⟨w.heap.size, 1, none⟩) hlw).trans f1; go_simp <;> first | with_reducible rfl | rfl)
  simp only [Act.put, List.setIfInBounds_toArray, List.set_cons_zero, List.set_cons_succ]
  refine wpAnyH_done (by kernel_rfl) ?_ _
  go_wp2_with fail
  go_ret
  rw [← HE.out] at ho
  exact ⟨⟨r, rfl, ho.mono (by have := hH1.size; omega)⟩, hbW.trans (hHeld.mono (by omega))⟩
set_option maxRecDepth 100000 in
set_option maxHeartbeats 400000 in
theorem want2 (a : Option Addr) (cap : Nat) (zs : List Nat) (t : Thing) (w : World) (ht : t.Ok) (hk : t.k = 2) (_hp : RowB w t.a t.p) (hr : RowB w a zs) (hl : zs.length + 1048586 ≤ 140737488355328) (hnil : a = none → zs.length = 0 ∧ cap = 0) :
    Calls Try.prog 31 #[.slice a zs.length cap, thingV t] w fun e w' => Laid w (zs ++ t.enc) e w' := by
  have hb := thing_below w t
  have HE : Hid (t.enc = beP 4 t.v 4) := by unfold Hid Thing.enc; rw [if_neg (by omega), if_neg (by omega), if_pos hk]; exact beP_mod (W := 4)
  have hx : ∀ W, RowB W a zs → Calls Try.prog 59 #[.slice a zs.length cap, .int .u64 (t.v : Int), .int .i64 (IntKind.i64.wrap 4)] W fun e w' => (∃ r, e = .returned r ∧ OwnB w' W.heap.size r (zs ++ beP 4 t.v 4)) ∧ Below W.heap.size W w' := fun W h => rput_any a cap t.v 4 zs W ht.v64 (by omega) h (by omega) hnil
  clear ht _hp
  obtain ⟨k, v, n, p, ta, tc⟩ := t
  simp only at hk
  subst hk
  have f0 : (w.alloc (.cells #[.int .i64 2, .int .u64 (v : Int), .int .i64 n, .slice ta p.length tc] 26)).cell? ⟨w.heap.size, 0, none⟩ = some (.int .i64 2) := by rw [cell_of_row _ _ _ _ _ _ (heap_alloc_new w _)]; rfl
  have f1 : (w.alloc (.cells #[.int .i64 2, .int .u64 (v : Int), .int .i64 n, .slice ta p.length tc] 26)).cell? ⟨w.heap.size, 1, none⟩ = some (.int .u64 (v : Int)) := by rw [cell_of_row _ _ _ _ _ _ (heap_alloc_new w _)]; rfl
  have hbW : Below w.heap.size w (w.alloc (.cells #[.int .i64 2, .int .u64 (v : Int), .int .i64 n, .slice ta p.length tc] 26)) := hb
  obtain ⟨W0, hW0⟩ : ∃ W0, W0 = w.alloc (.cells #[.int .i64 2, .int .u64 (v : Int), .int .i64 n, .slice ta p.length tc] 26) := ⟨_, rfl⟩
  have hs0 : W0.heap.size = w.heap.size + 1 := by rw [hW0]; simp
  have hlw : w.heap.size < W0.heap.size := by omega
  rw [← hW0] at f0 f1 hbW
  clear hb
  go_enter Try.func31, Try.ntmps31
  go_wp2_with fail
  rw [← hW0]
  clear hW0
  refine wp_region_held_drew (S := (fun w' => Below W0.heap.size W0 w')) (by kernel_rfl) ?_ (fun hHeld => ?_)
  · exact (Below.refl _ _).drew
  refine take_on (i := 0) (v := ?_) rfl rfl (by kernel_rfl) (by kernel_rfl) (by kernel_rfl) (fun _ _ _ h => h) rfl ?_ hHeld ?_
  rotate_left
  · (intro wq hSq; have hq0 := (hSq.cell (p := ⟨w.heap.size, 0, none⟩) hlw).trans f0; have hq1 := (hSq.cell (p := ⟨w.heap.size, 1, none⟩) hlw).trans f1; go_simp <;> first | with_reducible rfl | rfl)
  simp only [Act.put, List.setIfInBounds_toArray, List.set_cons_zero, List.set_cons_succ]
  refine take_on (i := 1) (v := ?_) rfl rfl (by kernel_rfl) (by kernel_rfl) (by kernel_rfl) (fun _ _ _ h => h) rfl ?_ hHeld ?_
  rotate_left
  · (intro wq hSq; have hq0 := (hSq.cell (p := ⟨w.heap.size, 0, none⟩) hlw).trans f0; have hq1 := (hSq.cell (p := ⟨w.heap.size, 1, none⟩) hlw).trans f1; go_simp <;> first | with_reducible rfl | rfl)
  simp only [Act.put, List.setIfInBounds_toArray, List.set_cons_zero, List.set_cons_succ]
  refine take_on (i := 2) (v := ?_) rfl rfl (by kernel_rfl) (by kernel_rfl) (by kernel_rfl) (fun _ _ _ h => h) rfl ?_ hHeld ?_
  rotate_left
  · (intro wq hSq; have hq0 := (hSq.cell (p := ⟨w.heap.size, 0, none⟩) hlw).trans f0; have hq1 := (hSq.cell (p := ⟨w.heap.size, 1, none⟩) hlw).trans f1; go_simp <;> first | with_reducible rfl | rfl)
  simp only [Act.put, List.setIfInBounds_toArray, List.set_cons_zero, List.set_cons_succ]
  refine take_on (i := 3) (v := ?_) rfl rfl (by kernel_rfl) (by kernel_rfl) (by kernel_rfl) (fun _ _ _ h => h) rfl ?_ hHeld ?_
  rotate_left
  · (intro wq hSq; have hq0 := (hSq.cell (p := ⟨w.heap.size, 0, none⟩) hlw).trans f0; have hq1 := (hSq.cell (p := ⟨w.heap.size, 1, none⟩) hlw).trans f1; go_simp <;> first | with_reducible rfl | rfl)
  simp only [Act.put, List.setIfInBounds_toArray, List.set_cons_zero, List.set_cons_succ]
  refine take_on (i := 4) (v := ?_) rfl rfl (by kernel_rfl) (by kernel_rfl) (by kernel_rfl) (fun _ _ _ h => h) rfl ?_ hHeld ?_
  rotate_left
  · (intro wq hSq; have hq0 := (hSq.cell (p := ⟨w.heap.size, 0, none⟩) hlw).trans f0; have hq1 := (hSq.cell (p := ⟨w.heap.size, 1, none⟩) hlw).trans f1; go_simp <;> first | with_reducible rfl | rfl)
  simp only [Act.put, List.setIfInBounds_toArray, List.set_cons_zero, List.set_cons_succ]
  refine take_on (i := 5) (v := ?_) rfl rfl (by kernel_rfl) (by kernel_rfl) (by kernel_rfl) (fun _ _ _ h => h) rfl ?_ hHeld ?_
  rotate_left
  · (intro wq hSq; have hq0 := (hSq.cell (p := ⟨w.heap.size, 0, none⟩) hlw).trans f0; have hq1 := (hSq.cell (p := ⟨w.heap.size, 1, none⟩) hlw).trans f1; go_simp <;> first | with_reducible rfl | rfl)
  simp only [Act.put, List.setIfInBounds_toArray, List.set_cons_zero, List.set_cons_succ]
  refine take_one (i := 6) rfl (by kernel_rfl) (fun K hK => ?_)
  go_simp
  refine (hx _ ((hr.below hbW).below hHeld)).mono ?_; rintro e w1 ⟨⟨r, rfl, ho⟩, hb1⟩; have hH1 := hHeld; have hH2 := hHeld.trans (hb1.mono hHeld.size)
  try go_wp2_with fail
  refine hK.out _ _ ?_ (fun hHeld => ?_)
  · exact hH2
  clear hK K
  try simp only [Act.put, List.setIfInBounds_toArray, List.set_cons_zero, List.set_cons_succ]
  refine take_on (i := 7) (v := ?_) rfl rfl (by kernel_rfl) (by kernel_rfl) (by kernel_rfl) (fun _ _ _ h => h) rfl ?_ hHeld ?_
  rotate_left
  · (intro wq hSq; have hq0 := (hSq.cell (p := ⟨w.heap.size, 0, none⟩) hlw).trans f0; have hq1 := (hSq.cell (p := ⟨w.heap.size, 1, none⟩) hlw).trans f1; go_simp <;> first | with_reducible rfl | rfl)
  simp only [Act.put, List.setIfInBounds_toArray, List.set_cons_zero, List.set_cons_succ]
  refine wpAnyH_done (by kernel_rfl) ?_ _
  go_wp2_with fail
  go_ret
  rw [← HE.out] at ho
  exact ⟨⟨r, rfl, ho.mono (by have := hH1.size; omega)⟩, hbW.trans (hHeld.mono (by omega))⟩
set_option maxRecDepth 100000 in
set_option maxHeartbeats 400000 in
theorem want3 (a : Option Addr) (cap : Nat) (zs : List Nat) (t : Thing) (w : World) (ht : t.Ok) (hk : t.k = 3) (_hp : RowB w t.a t.p) (hr : RowB w a zs) (hl : zs.length + 1048586 ≤ 140737488355328) (hnil : a = none → zs.length = 0 ∧ cap = 0) :
    Calls Try.prog 31 #[.slice a zs.length cap, thingV t] w fun e w' => Laid w (zs ++ t.enc) e w' := by
  have hb := thing_below w t
  have HE : Hid (t.enc = beP 8 t.v 8) := by unfold Hid Thing.enc; rw [if_neg (by omega), if_neg (by omega), if_neg (by omega), if_pos hk]
  have hx : ∀ W, RowB W a zs → Calls Try.prog 59 #[.slice a zs.length cap, .int .u64 (t.v : Int), .int .i64 (IntKind.i64.wrap 8)] W fun e w' => (∃ r, e = .returned r ∧ OwnB w' W.heap.size r (zs ++ beP 8 t.v 8)) ∧ Below W.heap.size W w' := fun W h => rput_any a cap t.v 8 zs W ht.v64 (by omega) h (by omega) hnil
  clear ht _hp
  obtain ⟨k, v, n, p, ta, tc⟩ := t
  simp only at hk
  subst hk
  have f0 : (w.alloc (.cells #[.int .i64 3, .int .u64 (v : Int), .int .i64 n, .slice ta p.length tc] 26)).cell? ⟨w.heap.size, 0, none⟩ = some (.int .i64 3) := by rw [cell_of_row _ _ _ _ _ _ (heap_alloc_new w _)]; rfl
  have f1 : (w.alloc (.cells #[.int .i64 3, .int .u64 (v : Int), .int .i64 n, .slice ta p.length tc] 26)).cell? ⟨w.heap.size, 1, none⟩ = some (.int .u64 (v : Int)) := by rw [cell_of_row _ _ _ _ _ _ (heap_alloc_new w _)]; rfl
  have hbW : Below w.heap.size w (w.alloc (.cells #[.int .i64 3, .int .u64 (v : Int), .int .i64 n, .slice ta p.length tc] 26)) := hb
  obtain ⟨W0, hW0⟩ : ∃ W0, W0 = w.alloc (.cells #[.int .i64 3, .int .u64 (v : Int), .int .i64 n, .slice ta p.length tc] 26) := ⟨_, rfl⟩
  have hs0 : W0.heap.size = w.heap.size + 1 := by rw [hW0]; simp
  have hlw : w.heap.size < W0.heap.size := by omega
  rw [← hW0] at f0 f1 hbW
  clear hb
  go_enter Try.func31, Try.ntmps31
  go_wp2_with fail
  rw [← hW0]
  clear hW0
  refine wp_region_held_drew (S := (fun w' => Below W0.heap.size W0 w')) (by kernel_rfl) ?_ (fun hHeld => ?_)
  · exact (Below.refl _ _).drew
  refine take_on (i := 0) (v := ?_) rfl rfl (by kernel_rfl) (by kernel_rfl) (by kernel_rfl) (fun _ _ _ h => h) rfl ?_ hHeld ?_
  rotate_left
  · (intro wq hSq; have hq0 := (hSq.cell (p := ⟨w.heap.size, 0, none⟩) hlw).trans f0; have hq1 := (hSq.cell (p := ⟨w.heap.size, 1, none⟩) hlw).trans f1; go_simp <;> first | with_reducible rfl | rfl)
  simp only [Act.put, List.setIfInBounds_toArray, List.set_cons_zero, List.set_cons_succ]
  refine take_on (i := 1) (v := ?_) rfl rfl (by kernel_rfl) (by kernel_rfl) (by kernel_rfl) (fun _ _ _ h => h) rfl ?_ hHeld ?_
  rotate_left
  · (intro wq hSq; have hq0 := (hSq.cell (p := ⟨w.heap.size, 0, none⟩) hlw).trans f0; have hq1 := (hSq.cell (p := ⟨w.heap.size, 1, none⟩) hlw).trans f1; go_simp <;> first | with_reducible rfl | rfl)
  simp only [Act.put, List.setIfInBounds_toArray, List.set_cons_zero, List.set_cons_succ]
  refine take_on (i := 2) (v := ?_) rfl rfl (by kernel_rfl) (by kernel_rfl) (by kernel_rfl) (fun _ _ _ h => h) rfl ?_ hHeld ?_
  rotate_left
  · (intro wq hSq; have hq0 := (hSq.cell (p := ⟨w.heap.size, 0, none⟩) hlw).trans f0; have hq1 := (hSq.cell (p := ⟨w.heap.size, 1, none⟩) hlw).trans f1; go_simp <;> first | with_reducible rfl | rfl)
  simp only [Act.put, List.setIfInBounds_toArray, List.set_cons_zero, List.set_cons_succ]
  refine take_on (i := 3) (v := ?_) rfl rfl (by kernel_rfl) (by kernel_rfl) (by kernel_rfl) (fun _ _ _ h => h) rfl ?_ hHeld ?_
  rotate_left
  · (intro wq hSq; have hq0 := (hSq.cell (p := ⟨w.heap.size, 0, none⟩) hlw).trans f0; have hq1 := (hSq.cell (p := ⟨w.heap.size, 1, none⟩) hlw).trans f1; go_simp <;> first | with_reducible rfl | rfl)
  simp only [Act.put, List.setIfInBounds_toArray, List.set_cons_zero, List.set_cons_succ]
  refine take_on (i := 4) (v := ?_) rfl rfl (by kernel_rfl) (by kernel_rfl) (by kernel_rfl) (fun _ _ _ h => h) rfl ?_ hHeld ?_
  rotate_left
  · (intro wq hSq; have hq0 := (hSq.cell (p := ⟨w.heap.size, 0, none⟩) hlw).trans f0; have hq1 := (hSq.cell (p := ⟨w.heap.size, 1, none⟩) hlw).trans f1; go_simp <;> first | with_reducible rfl | rfl)
  simp only [Act.put, List.setIfInBounds_toArray, List.set_cons_zero, List.set_cons_succ]
  refine take_on (i := 5) (v := ?_) rfl rfl (by kernel_rfl) (by kernel_rfl) (by kernel_rfl) (fun _ _ _ h => h) rfl ?_ hHeld ?_
  rotate_left
  · (intro wq hSq; have hq0 := (hSq.cell (p := ⟨w.heap.size, 0, none⟩) hlw).trans f0; have hq1 := (hSq.cell (p := ⟨w.heap.size, 1, none⟩) hlw).trans f1; go_simp <;> first | with_reducible rfl | rfl)
  simp only [Act.put, List.setIfInBounds_toArray, List.set_cons_zero, List.set_cons_succ]
  refine take_one (i := 6) rfl (by kernel_rfl) (fun K hK => ?_)
  go_simp
  refine (hx _ ((hr.below hbW).below hHeld)).mono ?_; rintro e w1 ⟨⟨r, rfl, ho⟩, hb1⟩; have hH1 := hHeld; have hH2 := hHeld.trans (hb1.mono hHeld.size)
  try go_wp2_with fail
  refine hK.out _ _ ?_ (fun hHeld => ?_)
  · exact hH2
  clear hK K
  try simp only [Act.put, List.setIfInBounds_toArray, List.set_cons_zero, List.set_cons_succ]
  refine take_on (i := 7) (v := ?_) rfl rfl (by kernel_rfl) (by kernel_rfl) (by kernel_rfl) (fun _ _ _ h => h) rfl ?_ hHeld ?_
  rotate_left
  · (intro wq hSq; have hq0 := (hSq.cell (p := ⟨w.heap.size, 0, none⟩) hlw).trans f0; have hq1 := (hSq.cell (p := ⟨w.heap.size, 1, none⟩) hlw).trans f1; go_simp <;> first | with_reducible rfl | rfl)
  simp only [Act.put, List.setIfInBounds_toArray, List.set_cons_zero, List.set_cons_succ]
  refine wpAnyH_done (by kernel_rfl) ?_ _
  go_wp2_with fail
  go_ret
  rw [← HE.out] at ho
  exact ⟨⟨r, rfl, ho.mono (by have := hH1.size; omega)⟩, hbW.trans (hHeld.mono (by omega))⟩
set_option maxRecDepth 100000 in
set_option maxHeartbeats 400000 in
theorem want4 (a : Option Addr) (cap : Nat) (zs : List Nat) (t : Thing) (w : World) (ht : t.Ok) (hk : t.k = 4) (_hp : RowB w t.a t.p) (hr : RowB w a zs) (hl : zs.length + 1048586 ≤ 140737488355328) (hnil : a = none → zs.length = 0 ∧ cap = 0) :
    Calls Try.prog 31 #[.slice a zs.length cap, thingV t] w fun e w' => Laid w (zs ++ t.enc) e w' := by
  have hb := thing_below w t
  have HE : Hid (t.enc = shortL (foldI t.n)) := by unfold Hid Thing.enc; rw [if_neg (by omega), if_neg (by omega), if_neg (by omega), if_neg (by omega), if_pos hk]
  have hx := rputInt_any a cap t.n zs _ ht.n1 ht.n2 (hr.below hb) (by omega) hnil
  clear ht _hp
  obtain ⟨k, v, n, p, ta, tc⟩ := t
  simp only at hk
  subst hk
  clear hr
  go_enter Try.func31, Try.ntmps31
  go_wp2_with fail
  refine hx.mono ?_
  intro e w1 h1
  have h2 := Laid.pre hb h1
  rw [← HE.out] at h2
  obtain ⟨⟨r, rfl, ho⟩, hb1⟩ := h2
  have HO := hide_it ho
  have HB := hide_it hb1
  clear h1 hx hb ho hb1
  go_wp2_with fail
  go_ret
  exact ⟨⟨r, rfl, HO.out⟩, HB.out⟩
set_option maxRecDepth 100000 in
set_option maxHeartbeats 400000 in
theorem want5 (a : Option Addr) (cap : Nat) (zs : List Nat) (t : Thing) (w : World) (ht : t.Ok) (h0 : t.k ≠ 0) (h1 : t.k ≠ 1) (h2 : t.k ≠ 2) (h3 : t.k ≠ 3) (h4 : t.k ≠ 4) (hp : RowB w t.a t.p) (hr : RowB w a zs) (hl : zs.length + 1048586 ≤ 140737488355328) (hnil : a = none → zs.length = 0 ∧ cap = 0) :
    Calls Try.prog 31 #[.slice a zs.length cap, thingV t] w fun e w' => Laid w (zs ++ t.enc) e w' := by
  have hb := thing_below w t
  have HE : Hid (t.enc = shortL (2 * t.p.length) ++ t.p) := by unfold Hid Thing.enc; rw [if_neg h0, if_neg h1, if_neg h2, if_neg h3, if_neg h4]
  have hx := rputBytes_any a t.a cap t.c zs t.p _ (hr.below hb) (hp.below hb) (by have := ht.len; omega) hnil ht.none
  rw [List.append_assoc] at hx
  clear ht hp
  obtain ⟨k, v, n, p, ta, tc⟩ := t
  have d0 : (k == 0) = false := by simpa using h0
  have d1 : (k == 1) = false := by simpa using h1
  have d2 : (k == 2) = false := by simpa using h2
  have d3 : (k == 3) = false := by simpa using h3
  have d4 : (k == 4) = false := by simpa using h4
  clear h0 h1 h2 h3 h4
  clear hr
  go_enter Try.func31, Try.ntmps31
  go_wp2_with fail
  refine hx.mono ?_
  intro e w1 h1
  have h2 := Laid.pre hb h1
  rw [← HE.out] at h2
  obtain ⟨⟨r, rfl, ho⟩, hb1⟩ := h2
  have HO := hide_it ho
  have HB := hide_it hb1
  clear h1 hx hb ho hb1
  go_wp2_with fail
  go_ret
  exact ⟨⟨r, rfl, HO.out⟩, HB.out⟩
theorem want_any (a : Option Addr) (cap : Nat) (zs : List Nat) (t : Thing) (w : World) (ht : t.Ok) (hp : RowB w t.a t.p) (hr : RowB w a zs) (hl : zs.length + 1048586 ≤ 140737488355328) (hnil : a = none → zs.length = 0 ∧ cap = 0) :
    Calls Try.prog 31 #[.slice a zs.length cap, thingV t] w fun e w' => Laid w (zs ++ t.enc) e w' := by
  by_cases k0 : t.k = 0
  · exact want0 a cap zs t w ht k0 hp hr hl hnil
  by_cases k1 : t.k = 1
  · exact want1 a cap zs t w ht k1 hp hr hl hnil
  by_cases k2 : t.k = 2
  · exact want2 a cap zs t w ht k2 hp hr hl hnil
  by_cases k3 : t.k = 3
  · exact want3 a cap zs t w ht k3 hp hr hl hnil
  by_cases k4 : t.k = 4
  · exact want4 a cap zs t w ht k4 hp hr hl hnil
  exact want5 a cap zs t w ht k0 k1 k2 k3 k4 hp hr hl hnil
end Go.Proofs.Ytfhinodieghklab
