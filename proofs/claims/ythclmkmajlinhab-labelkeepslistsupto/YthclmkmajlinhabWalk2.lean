/- What the document's Of, Join and Meet answer: the number of a row of marks, the union and the intersection. -/
import Derived.Test.YthclmkmajlinhabWalk1
namespace Go.Proofs.Ythclmkmajlinhab
open Go.RowKit

theorem ofBits_bound (f : Nat → Bool) (k : Nat) (hk : k < 64) : (ofBits f k : Int) ≤ 9223372036854775807 := by
  have h := ofBits_lt f k
  have h2 : 2 ^ k ≤ 2 ^ 63 := Nat.pow_le_pow_right (by decide) (by omega)
  have h3 : (2 : Nat) ^ 63 = 9223372036854775808 := by decide
  omega

theorem ofBits_succ (f : Nat → Bool) (k : Nat) : ofBits f (k + 1) = 2 * ofBits f k + (f (63 - k)).toNat := rfl

set_option maxHeartbeats 400000 in
theorem of_any (f : Nat → Bool) (cs : Array Value) (w : World) (hget : ∀ i, i < 64 → cs[i]? = some (.bool (f i))) :
    Calls Try.prog 32 #[.agg cs] w fun e w' => e = .returned (.int .u64 ((ofBits f 64 : Nat) : Int)) ∧ Below w.heap.size w w' := by
  have hcell : ∀ i : Nat, i < 64 → (w.alloc (.cells cs 64)).cell? ⟨w.heap.size, i, none⟩ = some (.bool (f i)) := by
    intro i hi
    rw [cell_of_row _ _ _ cs 64 _ (heap_alloc_new w _)]
    exact hget i hi
  clear hget
  go_enter Try.func32, Try.ntmps32
  go_wp2
  go_loop [3, 4] (fun l i => ∃ k j : Nat, Hid (k + j = 64) ∧ l = .int .u64 (ofBits f k) ∧ i = .int .i64 ((j : Int) - 1)) (fun _ i => (intOf i + 1).toNat)
  case atStart => exact ⟨0, 64, rfl, rfl, rfl⟩
  case round =>
    obtain ⟨k, j, hkj, rfl, rfl⟩ := hrel
    have hj64 : j ≤ 64 := by have := hkj.out; omega
    by_cases hlt : 0 < j
    · have hc := hcell (j - 1) (by omega)
      have ej : j - 1 = 63 - k := by have := hkj.out; omega
      have hb := ofBits_bound f k (by have := hkj.out; omega)
      have hs := ofBits_succ f k
      rw [← ej] at hs
      have HS := hs
      have HK : Hid (ofBits f (k + 1) = 2 * ofBits f k + (f (j - 1)).toNat) := hs
      clear hs HS ej
      cases hf : f (j - 1)
      all_goals
        rw [hf] at hc HK
        go_wp2
        go_round
        case rel => exact ⟨k + 1, j - 1, by have := hkj.out; show _ = _; omega, by rw [HK.out]; go_num, by go_num⟩
        case measure => simp [intOf]; omega
    · go_wp2
      go_ret
      have he : k = 64 := by have := hkj.out; omega
      subst he
      exact ⟨rfl, (Below.refl _ _).alloc (Nat.le_refl _) _⟩


/-- The block g holds 64 marks, the first k of which are told by f. -/
def Marks (wr : World) (g : Nat) (f : Nat → Bool) (k : Nat) : Prop :=
  ∃ cs : Array Value, wr.heap[g]? = some (.cells cs 64 (0, 0)) ∧ cs.size = 64 ∧ ∀ i, i < k → cs[i]? = some (.bool (f i))

theorem Marks.cell {wr : World} {g : Nat} {f : Nat → Bool} {k : Nat} (h : Marks wr g f k) (j : Nat) (hj : j < 64) :
    (∃ v, wr.cell? ⟨g, j, none⟩ = some v) ∧ wr.frozen? ⟨g, j, none⟩ = false := by
  obtain ⟨cs, h1, h2, _⟩ := h
  refine ⟨⟨cs[j]'(by omega), ?_⟩, ?_⟩
  · rw [cell_of_row _ _ _ _ _ _ h1]; simp [h2, hj]
  · simp [World.frozen?, h1]

theorem Marks.step {wr : World} {g : Nat} {f : Nat → Bool} {k : Nat} (h : Marks wr g f k) (hk : k < 64) {v : Value} (hv : v = .bool (f k)) :
    Marks (wr.setCell ⟨g, k, none⟩ v) g f (k + 1) := by
  obtain ⟨cs, h1, h2, h3⟩ := h
  refine ⟨_, heap_setCell_same wr g k cs _ v h1, by simpa using h2, fun i hi => ?_⟩
  rw [Array.getElem?_setIfInBounds]
  by_cases e : k = i
  · subst e; rw [if_pos rfl, if_pos (by omega), hv]
  · rw [if_neg e]; exact h3 i (by omega)

theorem Marks.start (w : World) (f : Nat → Bool) (cs : Array Value) (hs : cs.size = 64) : Marks (w.alloc (.cells cs 64)) w.heap.size f 0 :=
  ⟨cs, heap_alloc_new w _, hs, fun i hi => by omega⟩

set_option maxHeartbeats 400000 in
theorem rjoin_any (a b : Nat) (w : World) (ha : W64 a) (hb : W64 b) :
    Calls Try.prog 18 #[.int .u64 (a : Int), .int .u64 (b : Int)] w fun e w' => e = .returned (.int .u64 ((a ||| b : Nat) : Int)) ∧ Below w.heap.size w w' := by
  go_enter Try.func18, Try.ntmps18
  go_wp2
  go_loopw [6] (fun i wr => ∃ k : Nat, k ≤ 64 ∧ i = .int .i64 k ∧ Marks wr w.heap.size (fun i => a.testBit i || b.testBit i) k ∧ Below w.heap.size w wr) (fun i _ => 64 - (intOf i).toNat)
  case atStart => exact ⟨0, by omega, rfl, Marks.start w _ _ rfl, (Below.refl _ _).alloc (Nat.le_refl _) _⟩
  case round =>
    obtain ⟨k, hk, rfl, hm, hbl⟩ := hrel
    by_cases hlt : k < 64
    · obtain ⟨⟨v, hc⟩, hfz⟩ := hm.cell k hlt
      cases h1 : a.testBit k
      · cases h2 : b.testBit k
        all_goals
          go_wp2_with (go_at_call 31; refine (has_any _ _ _ (by assumption) (by omega)).mono ?_; rintro e w' ⟨rfl, rfl⟩)
          go_roundw
          case rel => exact ⟨k + 1, by omega, by go_num, hm.step hlt (by rw [h1, h2]; rfl), hbl.setCell (Nat.le_refl _) _⟩
          case measure => simp [intOf]; omega
      · go_wp2_with (go_at_call 31; refine (has_any _ _ _ (by assumption) (by omega)).mono ?_; rintro e w' ⟨rfl, rfl⟩)
        go_roundw
        case rel => exact ⟨k + 1, by omega, by go_num, hm.step hlt (by rw [h1]; rfl), hbl.setCell (Nat.le_refl _) _⟩
        case measure => simp [intOf]; omega
    · have he : k = 64 := by omega
      subst he
      obtain ⟨cs, h1, h2, h3⟩ := hm
      go_wp2_with (first | (go_at_call 32; refine (of_any _ _ _ h3).mono ?_; rintro e w' ⟨rfl, hb2⟩) | (refine wpList_load_row rfl 64 _ rfl _ rfl _ cs _ _ h1 Try.underlying64 rfl (by rw [h2]; kernel_rfl) ?_))
      go_ret
      refine ⟨?_, hbl.trans (hb2.mono hbl.size)⟩
      show Ending.returned (.int .u64 ((ofBits (fun i => a.testBit i || b.testBit i) 64 : Nat) : Int)) = _
      rw [ofBits_eq (ha.or hb) (fun i _ => by rw [Nat.testBit_or])]

set_option maxHeartbeats 400000 in
theorem rmeet_any (a b : Nat) (w : World) (ha : W64 a) (hb : W64 b) :
    Calls Try.prog 19 #[.int .u64 (a : Int), .int .u64 (b : Int)] w fun e w' => e = .returned (.int .u64 ((a &&& b : Nat) : Int)) ∧ Below w.heap.size w w' := by
  go_enter Try.func19, Try.ntmps19
  go_wp2
  go_loopw [6] (fun i wr => ∃ k : Nat, k ≤ 64 ∧ i = .int .i64 k ∧ Marks wr w.heap.size (fun i => a.testBit i && b.testBit i) k ∧ Below w.heap.size w wr) (fun i _ => 64 - (intOf i).toNat)
  case atStart => exact ⟨0, by omega, rfl, Marks.start w _ _ rfl, (Below.refl _ _).alloc (Nat.le_refl _) _⟩
  case round =>
    obtain ⟨k, hk, rfl, hm, hbl⟩ := hrel
    by_cases hlt : k < 64
    · obtain ⟨⟨v, hc⟩, hfz⟩ := hm.cell k hlt
      cases h1 : a.testBit k
      · go_wp2_with (go_at_call 31; refine (has_any _ _ _ (by assumption) (by omega)).mono ?_; rintro e w' ⟨rfl, rfl⟩)
        go_roundw
        case rel => exact ⟨k + 1, by omega, by go_num, hm.step hlt (by rw [h1]; rfl), hbl.setCell (Nat.le_refl _) _⟩
        case measure => simp [intOf]; omega
      · cases h2 : b.testBit k
        all_goals
          go_wp2_with (go_at_call 31; refine (has_any _ _ _ (by assumption) (by omega)).mono ?_; rintro e w' ⟨rfl, rfl⟩)
          go_roundw
          case rel => exact ⟨k + 1, by omega, by go_num, hm.step hlt (by rw [h1, h2]; rfl), hbl.setCell (Nat.le_refl _) _⟩
          case measure => simp [intOf]; omega
    · have he : k = 64 := by omega
      subst he
      obtain ⟨cs, h1, h2, h3⟩ := hm
      go_wp2_with (first | (go_at_call 32; refine (of_any _ _ _ h3).mono ?_; rintro e w' ⟨rfl, hb2⟩) | (refine wpList_load_row rfl 64 _ rfl _ rfl _ cs _ _ h1 Try.underlying64 rfl (by rw [h2]; kernel_rfl) ?_))
      go_ret
      refine ⟨?_, hbl.trans (hb2.mono hbl.size)⟩
      show Ending.returned (.int .u64 ((ofBits (fun i => a.testBit i && b.testBit i) 64 : Nat) : Int)) = _
      rw [ofBits_eq (ha.and b) (fun i _ => by rw [Nat.testBit_and])]

end Go.Proofs.Ythclmkmajlinhab
