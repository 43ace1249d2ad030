/- A call, as a step says it: the rest. -/
import Derived.Test.YtdodnegdpdhbiaaCa8
namespace Go.Proofs.Ytdodnegdpdhbiaa
open Go.RowKit

set_option maxRecDepth 100000 in
set_option maxHeartbeats 1600000 in
theorem call_strike (pv : Value) (x : Cal) (hk : x.k = 8) (w : World) (K : World → Prop) (hkp : ∀ w1, K w1 → BoxT w1 (w.heap.size + 1) ∧ BoxT w1 (w.heap.size + 1 + 1))
    (hc : Calls Try.prog 48 #[pv] (callW w x) fun e w1 => e = .returned (.tuple #[]) ∧ K w1) :
    Calls Try.prog 26 #[pv, valC x] w fun e w' => e = .returned (.agg #[.int .i64 0, .int .i64 0, .int .i64 0, .int .i64 0, .slice none 0 0, .slice none 0 0]) ∧ ∃ w1, K w1 ∧ Chg (fun b => b = w.heap.size + 1 ∨ b = w.heap.size + 1 + 1) w1 w' := by
  obtain ⟨k, i, a, b, p, fa, fn, fc, f⟩ := x
  simp only at hk hc
  subst hk
  go_enter Try.func26, Try.ntmps26
  go_wp2_with fail
  refine hc.mono ?_
  rintro e w1 ⟨rfl, hK⟩
  obtain ⟨h1, h2⟩ := hkp _ hK
  obtain ⟨a0, a1, a2, a3, a4, a5, aF⟩ := h1.cells
  obtain ⟨b0, b1, b2, b3, b4, b5, bF⟩ := h2.cells
  clear hkp h1 h2 hc
  go_wp2_with fail
  exact bodyPost_ret (v := .agg #[.int .i64 0, .int .i64 0, .int .i64 0, .int .i64 0, .slice none 0 0, .slice none 0 0]) (by simp [results, Try.results26, go_sem, a0, a1, a2, a3, a4, a5]) rfl ⟨rfl, w1, hK, ((((((((Chg.refl _ w1).setCell _ _ (fun _ => .inr rfl)).setCell _ _ (fun _ => .inl rfl)).setCell _ _ (fun _ => .inl rfl)).setCell _ _ (fun _ => .inl rfl)).setCell _ _ (fun _ => .inl rfl)).setCell _ _ (fun _ => .inl rfl)).setCell _ _ (fun _ => .inl rfl))⟩

set_option maxRecDepth 100000 in
set_option maxHeartbeats 1600000 in
theorem call_image (pv : Value) (x : Cal) (hk : x.k = 9) (w : World) (K : World → Prop) (L : Nat) (R : Option Addr → Nat → World → Prop) (hkp : ∀ w1, K w1 → BoxT w1 (w.heap.size + 1) ∧ BoxT w1 (w.heap.size + 1 + 1))
    (hc : Calls Try.prog 33 #[pv] (callW w x) fun e w1 => (∃ ra rc, e = .returned (.slice ra L rc) ∧ R ra rc w1) ∧ K w1) :
    Calls Try.prog 26 #[pv, valC x] w fun e w' => ∃ ra rc, e = .returned (.agg #[.int .i64 0, .int .i64 0, .int .i64 0, .int .i64 0, .slice none 0 0, .slice ra L rc]) ∧ ∃ w1, R ra rc w1 ∧ K w1 ∧ Chg (fun b => b = w.heap.size + 1 ∨ b = w.heap.size + 1 + 1) w1 w' := by
  obtain ⟨k, i, a, b, p, fa, fn, fc, f⟩ := x
  simp only at hk hc
  subst hk
  go_enter Try.func26, Try.ntmps26
  go_wp2_with fail
  refine hc.mono ?_
  rintro e w1 ⟨⟨ra, rc, rfl, hR⟩, hK⟩
  obtain ⟨h1, h2⟩ := hkp _ hK
  obtain ⟨a0, a1, a2, a3, a4, a5, aF⟩ := h1.cells
  obtain ⟨b0, b1, b2, b3, b4, b5, bF⟩ := h2.cells
  clear hkp h1 h2 hc
  go_wp2_with fail
  exact bodyPost_ret (v := .agg #[.int .i64 0, .int .i64 0, .int .i64 0, .int .i64 0, .slice none 0 0, .slice ra L rc]) (by simp [results, Try.results26, go_sem, a0, a1, a2, a3, a4, a5]) rfl ⟨ra, rc, rfl, w1, hR, hK, (((((((((Chg.refl _ w1).setCell _ _ (fun _ => .inr rfl)).setCell _ _ (fun _ => .inr rfl)).setCell _ _ (fun _ => .inl rfl)).setCell _ _ (fun _ => .inl rfl)).setCell _ _ (fun _ => .inl rfl)).setCell _ _ (fun _ => .inl rfl)).setCell _ _ (fun _ => .inl rfl)).setCell _ _ (fun _ => .inl rfl))⟩

set_option maxRecDepth 100000 in
set_option maxHeartbeats 1600000 in
theorem call_areas (pv : Value) (x : Cal) (hk : x.k = 10) (w : World) (K : World → Prop) (X : Int) (hkp : ∀ w1, K w1 → BoxT w1 (w.heap.size + 1) ∧ BoxT w1 (w.heap.size + 1 + 1))
    (hc : Calls Try.prog 51 #[pv] (callW w x) fun e w1 => e = .returned (.int .i64 X) ∧ K w1) :
    Calls Try.prog 26 #[pv, valC x] w fun e w' => e = .returned (.agg #[.int .i64 0, .int .i64 X, .int .i64 0, .int .i64 0, .slice none 0 0, .slice none 0 0]) ∧ ∃ w1, K w1 ∧ Chg (fun b => b = w.heap.size + 1 ∨ b = w.heap.size + 1 + 1) w1 w' := by
  obtain ⟨k, i, a, b, p, fa, fn, fc, f⟩ := x
  simp only at hk hc
  subst hk
  go_enter Try.func26, Try.ntmps26
  go_wp2_with fail
  refine hc.mono ?_
  rintro e w1 ⟨rfl, hK⟩
  obtain ⟨h1, h2⟩ := hkp _ hK
  obtain ⟨a0, a1, a2, a3, a4, a5, aF⟩ := h1.cells
  obtain ⟨b0, b1, b2, b3, b4, b5, bF⟩ := h2.cells
  clear hkp h1 h2 hc
  go_wp2_with fail
  exact bodyPost_ret (v := .agg #[.int .i64 0, .int .i64 X, .int .i64 0, .int .i64 0, .slice none 0 0, .slice none 0 0]) (by simp [results, Try.results26, go_sem, a0, a1, a2, a3, a4, a5]) rfl ⟨rfl, w1, hK, (((((((((Chg.refl _ w1).setCell _ _ (fun _ => .inr rfl)).setCell _ _ (fun _ => .inr rfl)).setCell _ _ (fun _ => .inl rfl)).setCell _ _ (fun _ => .inl rfl)).setCell _ _ (fun _ => .inl rfl)).setCell _ _ (fun _ => .inl rfl)).setCell _ _ (fun _ => .inl rfl)).setCell _ _ (fun _ => .inl rfl))⟩

set_option maxRecDepth 100000 in
set_option maxHeartbeats 1600000 in
theorem call_other (pv : Value) (x : Cal) (hk : x.k < 0 ∨ 10 < x.k) (w : World)  :
    Calls Try.prog 26 #[pv, valC x] w fun e w' => e = .returned (.agg #[.int .i64 0, .int .i64 0, .int .i64 0, .int .i64 0, .slice none 0 0, .slice none 0 0]) ∧ Below w.heap.size w w' := by
  obtain ⟨k, i, a, b, p, fa, fn, fc, f⟩ := x
  simp only at hk 
  have n0 : ¬ k = 0 := by omega
  have n1 : ¬ k = 1 := by omega
  have n2 : ¬ k = 2 := by omega
  have n3 : ¬ k = 3 := by omega
  have n4 : ¬ k = 4 := by omega
  have n5 : ¬ k = 5 := by omega
  have n6 : ¬ k = 6 := by omega
  have n7 : ¬ k = 7 := by omega
  have n8 : ¬ k = 8 := by omega
  have n9 : ¬ k = 9 := by omega
  have n10 : ¬ k = 10 := by omega
  clear hk
  go_enter Try.func26, Try.ntmps26
  go_wp2_with fail
  exact bodyPost_ret (v := .agg #[.int .i64 0, .int .i64 0, .int .i64 0, .int .i64 0, .slice none 0 0, .slice none 0 0]) (by simp [results, Try.results26, go_sem]) rfl ⟨rfl, (((Below.refl _ _).alloc (Nat.le_refl _) _).alloc (by simp) _).alloc (by simp; omega) _⟩

end Go.Proofs.Ytdodnegdpdhbiaa
