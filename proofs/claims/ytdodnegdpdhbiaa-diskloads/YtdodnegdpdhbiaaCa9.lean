/- A call, as a step says it: the operations. -/
import Derived.Test.YtdodnegdpdhbiaaCa8
namespace Go.Proofs.Ytdodnegdpdhbiaa
open Go.RowKit

set_option maxRecDepth 100000 in
set_option maxHeartbeats 1600000 in
theorem call_append (pv : Value) (x : Cal) (hk : x.k = 0) (w : World) (K : World → Prop) (E : Int) (hkp : ∀ w1, K w1 → BoxT w1 (w.heap.size + 1) ∧ BoxT w1 (w.heap.size + 1 + 1))
    (hc : Calls Try.prog 28 #[pv, .int .i64 x.i, .slice x.p.a x.p.p.length x.p.c] (callW w x) fun e w1 => e = .returned (.int .i64 E) ∧ K w1) :
    Calls Try.prog 26 #[pv, valC x] w fun e w' => e = .returned (.agg #[.int .i64 E, .int .i64 0, .int .i64 0, .int .i64 0, .slice none 0 0, .slice none 0 0]) ∧ ∃ w1, K w1 ∧ Chg (fun b => b = w.heap.size + 1 ∨ b = w.heap.size + 1 + 1) w1 w' := by
  obtain ⟨k, i, a, b, p, fa, fn, fc, f⟩ := x
  simp only at hk hc
  subst hk
  go_enter Try.func26, Try.ntmps26
  go_wp2_with fail
  refine hc.mono ?_
  rintro e w1 ⟨rfl, hK⟩
  obtain ⟨h1, h2⟩ := hkp _ hK
  obtain ⟨a0, a1, a2, a3, a4, a5, aF⟩ := h1.cells
  obtain ⟨b0, b1, b2, b3, b4, b5, bF⟩ := h2.cells
  clear hkp h1 h2 hc
  go_wp2_with fail
  exact bodyPost_ret (v := .agg #[.int .i64 E, .int .i64 0, .int .i64 0, .int .i64 0, .slice none 0 0, .slice none 0 0]) (by simp [results, Try.results26, go_sem, a0, a1, a2, a3, a4, a5]) rfl ⟨rfl, w1, hK, ((((((((Chg.refl _ w1).setCell _ _ (fun _ => .inr rfl)).setCell _ _ (fun _ => .inl rfl)).setCell _ _ (fun _ => .inl rfl)).setCell _ _ (fun _ => .inl rfl)).setCell _ _ (fun _ => .inl rfl)).setCell _ _ (fun _ => .inl rfl)).setCell _ _ (fun _ => .inl rfl))⟩

set_option maxRecDepth 100000 in
set_option maxHeartbeats 1600000 in
theorem call_sync (pv : Value) (x : Cal) (hk : x.k = 1) (w : World) (K : World → Prop) (E : Int) (hkp : ∀ w1, K w1 → BoxT w1 (w.heap.size + 1) ∧ BoxT w1 (w.heap.size + 1 + 1))
    (hc : Calls Try.prog 29 #[pv, .int .i64 x.i] (callW w x) fun e w1 => e = .returned (.int .i64 E) ∧ K w1) :
    Calls Try.prog 26 #[pv, valC x] w fun e w' => e = .returned (.agg #[.int .i64 E, .int .i64 0, .int .i64 0, .int .i64 0, .slice none 0 0, .slice none 0 0]) ∧ ∃ w1, K w1 ∧ Chg (fun b => b = w.heap.size + 1 ∨ b = w.heap.size + 1 + 1) w1 w' := by
  obtain ⟨k, i, a, b, p, fa, fn, fc, f⟩ := x
  simp only at hk hc
  subst hk
  go_enter Try.func26, Try.ntmps26
  go_wp2_with fail
  refine hc.mono ?_
  rintro e w1 ⟨rfl, hK⟩
  obtain ⟨h1, h2⟩ := hkp _ hK
  obtain ⟨a0, a1, a2, a3, a4, a5, aF⟩ := h1.cells
  obtain ⟨b0, b1, b2, b3, b4, b5, bF⟩ := h2.cells
  clear hkp h1 h2 hc
  go_wp2_with fail
  exact bodyPost_ret (v := .agg #[.int .i64 E, .int .i64 0, .int .i64 0, .int .i64 0, .slice none 0 0, .slice none 0 0]) (by simp [results, Try.results26, go_sem, a0, a1, a2, a3, a4, a5]) rfl ⟨rfl, w1, hK, ((((((((Chg.refl _ w1).setCell _ _ (fun _ => .inr rfl)).setCell _ _ (fun _ => .inl rfl)).setCell _ _ (fun _ => .inl rfl)).setCell _ _ (fun _ => .inl rfl)).setCell _ _ (fun _ => .inl rfl)).setCell _ _ (fun _ => .inl rfl)).setCell _ _ (fun _ => .inl rfl))⟩

set_option maxRecDepth 100000 in
set_option maxHeartbeats 1600000 in
theorem call_cut (pv : Value) (x : Cal) (hk : x.k = 2) (w : World) (K : World → Prop) (E : Int) (hkp : ∀ w1, K w1 → BoxT w1 (w.heap.size + 1) ∧ BoxT w1 (w.heap.size + 1 + 1))
    (hc : Calls Try.prog 61 #[pv, .int .i64 x.i, .int .i64 x.a] (callW w x) fun e w1 => e = .returned (.int .i64 E) ∧ K w1) :
    Calls Try.prog 26 #[pv, valC x] w fun e w' => e = .returned (.agg #[.int .i64 E, .int .i64 0, .int .i64 0, .int .i64 0, .slice none 0 0, .slice none 0 0]) ∧ ∃ w1, K w1 ∧ Chg (fun b => b = w.heap.size + 1 ∨ b = w.heap.size + 1 + 1) w1 w' := by
  obtain ⟨k, i, a, b, p, fa, fn, fc, f⟩ := x
  simp only at hk hc
  subst hk
  go_enter Try.func26, Try.ntmps26
  go_wp2_with fail
  refine hc.mono ?_
  rintro e w1 ⟨rfl, hK⟩
  obtain ⟨h1, h2⟩ := hkp _ hK
  obtain ⟨a0, a1, a2, a3, a4, a5, aF⟩ := h1.cells
  obtain ⟨b0, b1, b2, b3, b4, b5, bF⟩ := h2.cells
  clear hkp h1 h2 hc
  go_wp2_with fail
  exact bodyPost_ret (v := .agg #[.int .i64 E, .int .i64 0, .int .i64 0, .int .i64 0, .slice none 0 0, .slice none 0 0]) (by simp [results, Try.results26, go_sem, a0, a1, a2, a3, a4, a5]) rfl ⟨rfl, w1, hK, ((((((((Chg.refl _ w1).setCell _ _ (fun _ => .inr rfl)).setCell _ _ (fun _ => .inl rfl)).setCell _ _ (fun _ => .inl rfl)).setCell _ _ (fun _ => .inl rfl)).setCell _ _ (fun _ => .inl rfl)).setCell _ _ (fun _ => .inl rfl)).setCell _ _ (fun _ => .inl rfl))⟩

set_option maxRecDepth 100000 in
set_option maxHeartbeats 1600000 in
theorem call_trim (pv : Value) (x : Cal) (hk : x.k = 3) (w : World) (K : World → Prop) (E : Int) (hkp : ∀ w1, K w1 → BoxT w1 (w.heap.size + 1) ∧ BoxT w1 (w.heap.size + 1 + 1))
    (hc : Calls Try.prog 62 #[pv, .int .i64 x.i, .int .i64 x.a] (callW w x) fun e w1 => e = .returned (.int .i64 E) ∧ K w1) :
    Calls Try.prog 26 #[pv, valC x] w fun e w' => e = .returned (.agg #[.int .i64 E, .int .i64 0, .int .i64 0, .int .i64 0, .slice none 0 0, .slice none 0 0]) ∧ ∃ w1, K w1 ∧ Chg (fun b => b = w.heap.size + 1 ∨ b = w.heap.size + 1 + 1) w1 w' := by
  obtain ⟨k, i, a, b, p, fa, fn, fc, f⟩ := x
  simp only at hk hc
  subst hk
  go_enter Try.func26, Try.ntmps26
  go_wp2_with fail
  refine hc.mono ?_
  rintro e w1 ⟨rfl, hK⟩
  obtain ⟨h1, h2⟩ := hkp _ hK
  obtain ⟨a0, a1, a2, a3, a4, a5, aF⟩ := h1.cells
  obtain ⟨b0, b1, b2, b3, b4, b5, bF⟩ := h2.cells
  clear hkp h1 h2 hc
  go_wp2_with fail
  exact bodyPost_ret (v := .agg #[.int .i64 E, .int .i64 0, .int .i64 0, .int .i64 0, .slice none 0 0, .slice none 0 0]) (by simp [results, Try.results26, go_sem, a0, a1, a2, a3, a4, a5]) rfl ⟨rfl, w1, hK, ((((((((Chg.refl _ w1).setCell _ _ (fun _ => .inr rfl)).setCell _ _ (fun _ => .inl rfl)).setCell _ _ (fun _ => .inl rfl)).setCell _ _ (fun _ => .inl rfl)).setCell _ _ (fun _ => .inl rfl)).setCell _ _ (fun _ => .inl rfl)).setCell _ _ (fun _ => .inl rfl))⟩

end Go.Proofs.Ytdodnegdpdhbiaa
