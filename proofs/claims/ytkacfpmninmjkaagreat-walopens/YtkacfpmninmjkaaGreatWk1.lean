/- A call of a log, as a step says it: kind by kind. -/
import Derived.Test.YtkacfpmninmjkaaGreatWx3
import Derived.Test.YtkacfpmninmjkaaGreatOpenSte
namespace Go.Proofs.YtkacfpmninmjkaaGreat
open Go.RowKit

/-- The value of a step; the world in which the call is made; an answer's box as it is made. -/
abbrev valS (x : Ste) : Value := .agg #[.int .i64 x.k, .int .i64 x.i, .int .i64 x.a, .slice x.esa x.esn x.esc, .slice x.p.a x.p.p.length x.p.c, .slice x.fa x.fn x.fc]
abbrev callV (w : World) (x : Ste) : World := ((w.alloc (.cells #[.int .i64 x.k, .int .i64 x.i, .int .i64 x.a, .slice x.esa x.esn x.esc, .slice x.p.a x.p.p.length x.p.c, .slice x.fa x.fn x.fc] 42)).alloc (.cells #[.int .i64 0, .int .i64 0, .int .i64 0, .int .i64 0, .slice none 0 0, .slice none 0 0] 46)).alloc (.cells #[.int .i64 0, .int .i64 0, .int .i64 0, .int .i64 0, .slice none 0 0, .slice none 0 0] 46)
def BoxU (w : World) (b : Nat) : Prop := w.heap[b]? = some (.cells #[.int .i64 0, .int .i64 0, .int .i64 0, .int .i64 0, .slice none 0 0, .slice none 0 0] 46 (0, 0))
theorem BoxU.cells {w : World} {b : Nat} (h : BoxU w b) : w.cell? ⟨b, 0, none⟩ = some (.int .i64 0) ∧ w.cell? ⟨b, 1, none⟩ = some (.int .i64 0) ∧ w.cell? ⟨b, 2, none⟩ = some (.int .i64 0) ∧ w.cell? ⟨b, 3, none⟩ = some (.int .i64 0) ∧ w.cell? ⟨b, 4, none⟩ = some (.slice none 0 0) ∧ w.cell? ⟨b, 5, none⟩ = some (.slice none 0 0) ∧ ∀ o, w.frozen? ⟨b, o, none⟩ = false :=
  ⟨cell_of_row _ _ _ _ _ _ h, cell_of_row _ _ _ _ _ _ h, cell_of_row _ _ _ _ _ _ h, cell_of_row _ _ _ _ _ _ h, cell_of_row _ _ _ _ _ _ h, cell_of_row _ _ _ _ _ _ h, fun o => frozen_of_row _ _ o _ _ h⟩
theorem callV_below (w : World) (x : Ste) : Below w.heap.size w (callV w x) := (((Below.refl _ _).alloc (Nat.le_refl _) _).alloc (by simp) _).alloc (by simp; omega) _
theorem callV_size (w : World) (x : Ste) : (callV w x).heap.size = w.heap.size + 1 + 1 + 1 := by simp [callV]
theorem callV_box (w : World) (x : Ste) : BoxU (callV w x) (w.heap.size + 1) ∧ BoxU (callV w x) (w.heap.size + 1 + 1) := by
  refine ⟨?_, ?_⟩
  · have h := heap_alloc_new (w.alloc (.cells #[.int .i64 x.k, .int .i64 x.i, .int .i64 x.a, .slice x.esa x.esn x.esc, .slice x.p.a x.p.p.length x.p.c, .slice x.fa x.fn x.fc] 42)) (.cells #[.int .i64 0, .int .i64 0, .int .i64 0, .int .i64 0, .slice none 0 0, .slice none 0 0] 46)
    rw [World.size_alloc] at h
    exact (Below.heap_alloc _ _ _ (by simp)).trans h
  · have h := heap_alloc_new ((w.alloc (.cells #[.int .i64 x.k, .int .i64 x.i, .int .i64 x.a, .slice x.esa x.esn x.esc, .slice x.p.a x.p.p.length x.p.c, .slice x.fa x.fn x.fc] 42)).alloc (.cells #[.int .i64 0, .int .i64 0, .int .i64 0, .int .i64 0, .slice none 0 0, .slice none 0 0] 46)) (.cells #[.int .i64 0, .int .i64 0, .int .i64 0, .int .i64 0, .slice none 0 0, .slice none 0 0] 46)
    rw [World.size_alloc, World.size_alloc] at h
    exact h

set_option maxRecDepth 100000 in
set_option maxHeartbeats 1600000 in
theorem wcall_write (pv lv : Value) (x : Ste) (hk : x.k = 0) (w : World) (K : World → Prop) (E : Int) (hkp : ∀ w1, K w1 → BoxU w1 (w.heap.size + 1) ∧ BoxU w1 (w.heap.size + 1 + 1))
    (hc : Calls Tryz.prog 22 #[lv, .slice x.esa x.esn x.esc] (callV w x) fun e w1 => e = .returned (.int .i64 E) ∧ K w1) :
    Calls Tryz.prog 15 #[pv, lv, valS x] w fun e w' => e = .returned (.agg #[.int .i64 E, .int .i64 0, .int .i64 0, .int .i64 0, .slice none 0 0, .slice none 0 0]) ∧ ∃ w1, K w1 ∧ Chg (fun b => b = w.heap.size + 1 ∨ b = w.heap.size + 1 + 1) w1 w' := by
  obtain ⟨k, i, a, esa, esn, esc, es, p, fa, fn, fc, f⟩ := x
  simp only at hk hc
  subst hk
  go_enter Tryz.func15, Tryz.ntmps15
  go_wp2_with fail
  refine hc.mono ?_
  rintro e w1 ⟨rfl, hK⟩
  obtain ⟨h1, h2⟩ := hkp _ hK
  obtain ⟨a0, a1, a2, a3, a4, a5, aF⟩ := h1.cells
  obtain ⟨b0, b1, b2, b3, b4, b5, bF⟩ := h2.cells
  clear hkp h1 h2 hc
  go_wp2_with fail
  exact bodyPost_ret (v := .agg #[.int .i64 E, .int .i64 0, .int .i64 0, .int .i64 0, .slice none 0 0, .slice none 0 0]) (by simp [results, Tryz.results15, go_sem, a0, a1, a2, a3, a4, a5]) rfl ⟨rfl, w1, hK, ((((((((Chg.refl _ w1).setCell _ _ (fun _ => .inr rfl)).setCell _ _ (fun _ => .inl rfl)).setCell _ _ (fun _ => .inl rfl)).setCell _ _ (fun _ => .inl rfl)).setCell _ _ (fun _ => .inl rfl)).setCell _ _ (fun _ => .inl rfl)).setCell _ _ (fun _ => .inl rfl))⟩

set_option maxRecDepth 100000 in
set_option maxHeartbeats 1600000 in
theorem wcall_group (pv lv : Value) (x : Ste) (hk : x.k = 1) (w : World) (K : World → Prop) (E : Int) (hkp : ∀ w1, K w1 → BoxU w1 (w.heap.size + 1) ∧ BoxU w1 (w.heap.size + 1 + 1))
    (hc : Calls Tryz.prog 21 #[lv, .slice x.esa x.esn x.esc] (callV w x) fun e w1 => e = .returned (.int .i64 E) ∧ K w1) :
    Calls Tryz.prog 15 #[pv, lv, valS x] w fun e w' => e = .returned (.agg #[.int .i64 E, .int .i64 0, .int .i64 0, .int .i64 0, .slice none 0 0, .slice none 0 0]) ∧ ∃ w1, K w1 ∧ Chg (fun b => b = w.heap.size + 1 ∨ b = w.heap.size + 1 + 1) w1 w' := by
  obtain ⟨k, i, a, esa, esn, esc, es, p, fa, fn, fc, f⟩ := x
  simp only at hk hc
  subst hk
  go_enter Tryz.func15, Tryz.ntmps15
  go_wp2_with fail
  refine hc.mono ?_
  rintro e w1 ⟨rfl, hK⟩
  obtain ⟨h1, h2⟩ := hkp _ hK
  obtain ⟨a0, a1, a2, a3, a4, a5, aF⟩ := h1.cells
  obtain ⟨b0, b1, b2, b3, b4, b5, bF⟩ := h2.cells
  clear hkp h1 h2 hc
  go_wp2_with fail
  exact bodyPost_ret (v := .agg #[.int .i64 E, .int .i64 0, .int .i64 0, .int .i64 0, .slice none 0 0, .slice none 0 0]) (by simp [results, Tryz.results15, go_sem, a0, a1, a2, a3, a4, a5]) rfl ⟨rfl, w1, hK, ((((((((Chg.refl _ w1).setCell _ _ (fun _ => .inr rfl)).setCell _ _ (fun _ => .inl rfl)).setCell _ _ (fun _ => .inl rfl)).setCell _ _ (fun _ => .inl rfl)).setCell _ _ (fun _ => .inl rfl)).setCell _ _ (fun _ => .inl rfl)).setCell _ _ (fun _ => .inl rfl))⟩

set_option maxRecDepth 100000 in
set_option maxHeartbeats 1600000 in
theorem wcall_sync (pv lv : Value) (x : Ste) (hk : x.k = 2) (w : World) (K : World → Prop) (E : Int) (hkp : ∀ w1, K w1 → BoxU w1 (w.heap.size + 1) ∧ BoxU w1 (w.heap.size + 1 + 1))
    (hc : Calls Tryz.prog 45 #[lv] (callV w x) fun e w1 => e = .returned (.int .i64 E) ∧ K w1) :
    Calls Tryz.prog 15 #[pv, lv, valS x] w fun e w' => e = .returned (.agg #[.int .i64 E, .int .i64 0, .int .i64 0, .int .i64 0, .slice none 0 0, .slice none 0 0]) ∧ ∃ w1, K w1 ∧ Chg (fun b => b = w.heap.size + 1 ∨ b = w.heap.size + 1 + 1) w1 w' := by
  obtain ⟨k, i, a, esa, esn, esc, es, p, fa, fn, fc, f⟩ := x
  simp only at hk hc
  subst hk
  go_enter Tryz.func15, Tryz.ntmps15
  go_wp2_with fail
  refine hc.mono ?_
  rintro e w1 ⟨rfl, hK⟩
  obtain ⟨h1, h2⟩ := hkp _ hK
  obtain ⟨a0, a1, a2, a3, a4, a5, aF⟩ := h1.cells
  obtain ⟨b0, b1, b2, b3, b4, b5, bF⟩ := h2.cells
  clear hkp h1 h2 hc
  go_wp2_with fail
  exact bodyPost_ret (v := .agg #[.int .i64 E, .int .i64 0, .int .i64 0, .int .i64 0, .slice none 0 0, .slice none 0 0]) (by simp [results, Tryz.results15, go_sem, a0, a1, a2, a3, a4, a5]) rfl ⟨rfl, w1, hK, ((((((((Chg.refl _ w1).setCell _ _ (fun _ => .inr rfl)).setCell _ _ (fun _ => .inl rfl)).setCell _ _ (fun _ => .inl rfl)).setCell _ _ (fun _ => .inl rfl)).setCell _ _ (fun _ => .inl rfl)).setCell _ _ (fun _ => .inl rfl)).setCell _ _ (fun _ => .inl rfl))⟩

set_option maxRecDepth 100000 in
set_option maxHeartbeats 1600000 in
theorem wcall_cut (pv lv : Value) (x : Ste) (hk : x.k = 3) (w : World) (K : World → Prop) (E : Int) (hkp : ∀ w1, K w1 → BoxU w1 (w.heap.size + 1) ∧ BoxU w1 (w.heap.size + 1 + 1))
    (hc : Calls Tryz.prog 30 #[lv, .int .i64 x.a] (callV w x) fun e w1 => e = .returned (.int .i64 E) ∧ K w1) :
    Calls Tryz.prog 15 #[pv, lv, valS x] w fun e w' => e = .returned (.agg #[.int .i64 E, .int .i64 0, .int .i64 0, .int .i64 0, .slice none 0 0, .slice none 0 0]) ∧ ∃ w1, K w1 ∧ Chg (fun b => b = w.heap.size + 1 ∨ b = w.heap.size + 1 + 1) w1 w' := by
  obtain ⟨k, i, a, esa, esn, esc, es, p, fa, fn, fc, f⟩ := x
  simp only at hk hc
  subst hk
  go_enter Tryz.func15, Tryz.ntmps15
  go_wp2_with fail
  refine hc.mono ?_
  rintro e w1 ⟨rfl, hK⟩
  obtain ⟨h1, h2⟩ := hkp _ hK
  obtain ⟨a0, a1, a2, a3, a4, a5, aF⟩ := h1.cells
  obtain ⟨b0, b1, b2, b3, b4, b5, bF⟩ := h2.cells
  clear hkp h1 h2 hc
  go_wp2_with fail
  exact bodyPost_ret (v := .agg #[.int .i64 E, .int .i64 0, .int .i64 0, .int .i64 0, .slice none 0 0, .slice none 0 0]) (by simp [results, Tryz.results15, go_sem, a0, a1, a2, a3, a4, a5]) rfl ⟨rfl, w1, hK, ((((((((Chg.refl _ w1).setCell _ _ (fun _ => .inr rfl)).setCell _ _ (fun _ => .inl rfl)).setCell _ _ (fun _ => .inl rfl)).setCell _ _ (fun _ => .inl rfl)).setCell _ _ (fun _ => .inl rfl)).setCell _ _ (fun _ => .inl rfl)).setCell _ _ (fun _ => .inl rfl))⟩

set_option maxRecDepth 100000 in
set_option maxHeartbeats 1600000 in
theorem wcall_trim (pv lv : Value) (x : Ste) (hk : x.k = 4) (w : World) (K : World → Prop) (E : Int) (hkp : ∀ w1, K w1 → BoxU w1 (w.heap.size + 1) ∧ BoxU w1 (w.heap.size + 1 + 1))
    (hc : Calls Tryz.prog 28 #[lv, .int .i64 x.a] (callV w x) fun e w1 => e = .returned (.int .i64 E) ∧ K w1) :
    Calls Tryz.prog 15 #[pv, lv, valS x] w fun e w' => e = .returned (.agg #[.int .i64 E, .int .i64 0, .int .i64 0, .int .i64 0, .slice none 0 0, .slice none 0 0]) ∧ ∃ w1, K w1 ∧ Chg (fun b => b = w.heap.size + 1 ∨ b = w.heap.size + 1 + 1) w1 w' := by
  obtain ⟨k, i, a, esa, esn, esc, es, p, fa, fn, fc, f⟩ := x
  simp only at hk hc
  subst hk
  go_enter Tryz.func15, Tryz.ntmps15
  go_wp2_with fail
  refine hc.mono ?_
  rintro e w1 ⟨rfl, hK⟩
  obtain ⟨h1, h2⟩ := hkp _ hK
  obtain ⟨a0, a1, a2, a3, a4, a5, aF⟩ := h1.cells
  obtain ⟨b0, b1, b2, b3, b4, b5, bF⟩ := h2.cells
  clear hkp h1 h2 hc
  go_wp2_with fail
  exact bodyPost_ret (v := .agg #[.int .i64 E, .int .i64 0, .int .i64 0, .int .i64 0, .slice none 0 0, .slice none 0 0]) (by simp [results, Tryz.results15, go_sem, a0, a1, a2, a3, a4, a5]) rfl ⟨rfl, w1, hK, ((((((((Chg.refl _ w1).setCell _ _ (fun _ => .inr rfl)).setCell _ _ (fun _ => .inl rfl)).setCell _ _ (fun _ => .inl rfl)).setCell _ _ (fun _ => .inl rfl)).setCell _ _ (fun _ => .inl rfl)).setCell _ _ (fun _ => .inl rfl)).setCell _ _ (fun _ => .inl rfl))⟩

set_option maxRecDepth 100000 in
set_option maxHeartbeats 1600000 in
theorem wcall_entries (pv lv : Value) (x : Ste) (hk : x.k = 5) (w : World) (K : World → Prop) (R : Option Addr → Nat → Nat → Option Addr → Nat → Nat → World → Prop) (hkp : ∀ w1, K w1 → BoxU w1 (w.heap.size + 1) ∧ BoxU w1 (w.heap.size + 1 + 1))
    (hc : Calls Tryz.prog 23 #[lv] (callV w x) fun e w1 => ∃ la ln lc na nn nc, e = .returned (.tuple #[.slice la ln lc, .slice na nn nc]) ∧ R la ln lc na nn nc w1 ∧ K w1) :
    Calls Tryz.prog 15 #[pv, lv, valS x] w fun e w' => ∃ la ln lc na nn nc, e = .returned (.agg #[.int .i64 0, .int .i64 0, .int .i64 0, .int .i64 0, .slice la ln lc, .slice na nn nc]) ∧ ∃ w1, R la ln lc na nn nc w1 ∧ K w1 ∧ Chg (fun b => b = w.heap.size + 1 ∨ b = w.heap.size + 1 + 1) w1 w' := by
  obtain ⟨k, i, a, esa, esn, esc, es, p, fa, fn, fc, f⟩ := x
  simp only at hk hc
  subst hk
  go_enter Tryz.func15, Tryz.ntmps15
  go_wp2_with fail
  refine hc.mono ?_
  rintro e w1 ⟨la, ln, lc, na, nn, nc, rfl, hR, hK⟩
  obtain ⟨h1, h2⟩ := hkp _ hK
  obtain ⟨a0, a1, a2, a3, a4, a5, aF⟩ := h1.cells
  obtain ⟨b0, b1, b2, b3, b4, b5, bF⟩ := h2.cells
  clear hkp h1 h2 hc
  go_wp2_with fail
  exact bodyPost_ret (v := .agg #[.int .i64 0, .int .i64 0, .int .i64 0, .int .i64 0, .slice la ln lc, .slice na nn nc]) (by simp [results, Tryz.results15, go_sem, a0, a1, a2, a3, a4, a5]) rfl ⟨la, ln, lc, na, nn, nc, rfl, w1, hR, hK, ((((((((((Chg.refl _ w1).setCell _ _ (fun _ => .inr rfl)).setCell _ _ (fun _ => .inr rfl)).setCell _ _ (fun _ => .inr rfl)).setCell _ _ (fun _ => .inl rfl)).setCell _ _ (fun _ => .inl rfl)).setCell _ _ (fun _ => .inl rfl)).setCell _ _ (fun _ => .inl rfl)).setCell _ _ (fun _ => .inl rfl)).setCell _ _ (fun _ => .inl rfl))⟩

set_option maxRecDepth 100000 in
set_option maxHeartbeats 1600000 in
theorem wcall_bounds (pv lv : Value) (x : Ste) (hk : x.k = 6) (w : World) (K : World → Prop) (X Y Z : Int) (hkp : ∀ w1, K w1 → BoxU w1 (w.heap.size + 1) ∧ BoxU w1 (w.heap.size + 1 + 1))
    (hc : Calls Tryz.prog 24 #[lv] (callV w x) fun e w1 => e = .returned (.tuple #[.int .i64 X, .int .i64 Y, .int .i64 Z]) ∧ K w1) :
    Calls Tryz.prog 15 #[pv, lv, valS x] w fun e w' => e = .returned (.agg #[.int .i64 0, .int .i64 X, .int .i64 Y, .int .i64 Z, .slice none 0 0, .slice none 0 0]) ∧ ∃ w1, K w1 ∧ Chg (fun b => b = w.heap.size + 1 ∨ b = w.heap.size + 1 + 1) w1 w' := by
  obtain ⟨k, i, a, esa, esn, esc, es, p, fa, fn, fc, f⟩ := x
  simp only at hk hc
  subst hk
  go_enter Tryz.func15, Tryz.ntmps15
  go_wp2_with fail
  refine hc.mono ?_
  rintro e w1 ⟨rfl, hK⟩
  obtain ⟨h1, h2⟩ := hkp _ hK
  obtain ⟨a0, a1, a2, a3, a4, a5, aF⟩ := h1.cells
  obtain ⟨b0, b1, b2, b3, b4, b5, bF⟩ := h2.cells
  clear hkp h1 h2 hc
  go_wp2_with fail
  exact bodyPost_ret (v := .agg #[.int .i64 0, .int .i64 X, .int .i64 Y, .int .i64 Z, .slice none 0 0, .slice none 0 0]) (by simp [results, Tryz.results15, go_sem, a0, a1, a2, a3, a4, a5]) rfl ⟨rfl, w1, hK, (((((((((((Chg.refl _ w1).setCell _ _ (fun _ => .inr rfl)).setCell _ _ (fun _ => .inr rfl)).setCell _ _ (fun _ => .inr rfl)).setCell _ _ (fun _ => .inr rfl)).setCell _ _ (fun _ => .inl rfl)).setCell _ _ (fun _ => .inl rfl)).setCell _ _ (fun _ => .inl rfl)).setCell _ _ (fun _ => .inl rfl)).setCell _ _ (fun _ => .inl rfl)).setCell _ _ (fun _ => .inl rfl))⟩

set_option maxRecDepth 100000 in
set_option maxHeartbeats 1600000 in
theorem wcall_append (pv lv : Value) (x : Ste) (hk : x.k = 7) (w : World) (K : World → Prop) (E : Int) (hkp : ∀ w1, K w1 → BoxU w1 (w.heap.size + 1) ∧ BoxU w1 (w.heap.size + 1 + 1))
    (hc : Calls Tryz.prog 46 #[pv, .int .i64 x.i, .slice x.p.a x.p.p.length x.p.c] (callV w x) fun e w1 => e = .returned (.int .i64 E) ∧ K w1) :
    Calls Tryz.prog 15 #[pv, lv, valS x] w fun e w' => e = .returned (.agg #[.int .i64 E, .int .i64 0, .int .i64 0, .int .i64 0, .slice none 0 0, .slice none 0 0]) ∧ ∃ w1, K w1 ∧ Chg (fun b => b = w.heap.size + 1 ∨ b = w.heap.size + 1 + 1) w1 w' := by
  obtain ⟨k, i, a, esa, esn, esc, es, p, fa, fn, fc, f⟩ := x
  simp only at hk hc
  subst hk
  go_enter Tryz.func15, Tryz.ntmps15
  go_wp2_with fail
  refine hc.mono ?_
  rintro e w1 ⟨rfl, hK⟩
  obtain ⟨h1, h2⟩ := hkp _ hK
  obtain ⟨a0, a1, a2, a3, a4, a5, aF⟩ := h1.cells
  obtain ⟨b0, b1, b2, b3, b4, b5, bF⟩ := h2.cells
  clear hkp h1 h2 hc
  go_wp2_with fail
  exact bodyPost_ret (v := .agg #[.int .i64 E, .int .i64 0, .int .i64 0, .int .i64 0, .slice none 0 0, .slice none 0 0]) (by simp [results, Tryz.results15, go_sem, a0, a1, a2, a3, a4, a5]) rfl ⟨rfl, w1, hK, ((((((((Chg.refl _ w1).setCell _ _ (fun _ => .inr rfl)).setCell _ _ (fun _ => .inl rfl)).setCell _ _ (fun _ => .inl rfl)).setCell _ _ (fun _ => .inl rfl)).setCell _ _ (fun _ => .inl rfl)).setCell _ _ (fun _ => .inl rfl)).setCell _ _ (fun _ => .inl rfl))⟩

set_option maxRecDepth 100000 in
set_option maxHeartbeats 1600000 in
theorem wcall_arm (pv lv : Value) (x : Ste) (hk : x.k = 8) (w : World) (K : World → Prop) (hkp : ∀ w1, K w1 → BoxU w1 (w.heap.size + 1) ∧ BoxU w1 (w.heap.size + 1 + 1))
    (hc : Calls Tryz.prog 26 #[pv, .slice x.fa x.fn x.fc] (callV w x) fun e w1 => e = .returned (.tuple #[]) ∧ K w1) :
    Calls Tryz.prog 15 #[pv, lv, valS x] w fun e w' => e = .returned (.agg #[.int .i64 0, .int .i64 0, .int .i64 0, .int .i64 0, .slice none 0 0, .slice none 0 0]) ∧ ∃ w1, K w1 ∧ Chg (fun b => b = w.heap.size + 1 ∨ b = w.heap.size + 1 + 1) w1 w' := by
  obtain ⟨k, i, a, esa, esn, esc, es, p, fa, fn, fc, f⟩ := x
  simp only at hk hc
  subst hk
  go_enter Tryz.func15, Tryz.ntmps15
  go_wp2_with fail
  refine hc.mono ?_
  rintro e w1 ⟨rfl, hK⟩
  obtain ⟨h1, h2⟩ := hkp _ hK
  obtain ⟨a0, a1, a2, a3, a4, a5, aF⟩ := h1.cells
  obtain ⟨b0, b1, b2, b3, b4, b5, bF⟩ := h2.cells
  clear hkp h1 h2 hc
  go_wp2_with fail
  exact bodyPost_ret (v := .agg #[.int .i64 0, .int .i64 0, .int .i64 0, .int .i64 0, .slice none 0 0, .slice none 0 0]) (by simp [results, Tryz.results15, go_sem, a0, a1, a2, a3, a4, a5]) rfl ⟨rfl, w1, hK, ((((((((Chg.refl _ w1).setCell _ _ (fun _ => .inr rfl)).setCell _ _ (fun _ => .inl rfl)).setCell _ _ (fun _ => .inl rfl)).setCell _ _ (fun _ => .inl rfl)).setCell _ _ (fun _ => .inl rfl)).setCell _ _ (fun _ => .inl rfl)).setCell _ _ (fun _ => .inl rfl))⟩

set_option maxRecDepth 100000 in
set_option maxHeartbeats 1600000 in
theorem wcall_strike (pv lv : Value) (x : Ste) (hk : x.k = 9) (w : World) (K : World → Prop) (hkp : ∀ w1, K w1 → BoxU w1 (w.heap.size + 1) ∧ BoxU w1 (w.heap.size + 1 + 1))
    (hc : Calls Tryz.prog 27 #[pv] (callV w x) fun e w1 => e = .returned (.tuple #[]) ∧ K w1) :
    Calls Tryz.prog 15 #[pv, lv, valS x] w fun e w' => e = .returned (.agg #[.int .i64 0, .int .i64 0, .int .i64 0, .int .i64 0, .slice none 0 0, .slice none 0 0]) ∧ ∃ w1, K w1 ∧ Chg (fun b => b = w.heap.size + 1 ∨ b = w.heap.size + 1 + 1) w1 w' := by
  obtain ⟨k, i, a, esa, esn, esc, es, p, fa, fn, fc, f⟩ := x
  simp only at hk hc
  subst hk
  go_enter Tryz.func15, Tryz.ntmps15
  go_wp2_with fail
  refine hc.mono ?_
  rintro e w1 ⟨rfl, hK⟩
  obtain ⟨h1, h2⟩ := hkp _ hK
  obtain ⟨a0, a1, a2, a3, a4, a5, aF⟩ := h1.cells
  obtain ⟨b0, b1, b2, b3, b4, b5, bF⟩ := h2.cells
  clear hkp h1 h2 hc
  go_wp2_with fail
  exact bodyPost_ret (v := .agg #[.int .i64 0, .int .i64 0, .int .i64 0, .int .i64 0, .slice none 0 0, .slice none 0 0]) (by simp [results, Tryz.results15, go_sem, a0, a1, a2, a3, a4, a5]) rfl ⟨rfl, w1, hK, ((((((((Chg.refl _ w1).setCell _ _ (fun _ => .inr rfl)).setCell _ _ (fun _ => .inl rfl)).setCell _ _ (fun _ => .inl rfl)).setCell _ _ (fun _ => .inl rfl)).setCell _ _ (fun _ => .inl rfl)).setCell _ _ (fun _ => .inl rfl)).setCell _ _ (fun _ => .inl rfl))⟩

end Go.Proofs.YtkacfpmninmjkaaGreat
