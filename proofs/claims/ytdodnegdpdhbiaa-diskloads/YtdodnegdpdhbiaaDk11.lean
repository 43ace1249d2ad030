/- Image. -/
import Derived.Test.YtdodnegdpdhbiaaMk8
namespace Go.Proofs.Ytdodnegdpdhbiaa
open Go.RowKit

/-- In block X lie spans, n of them: their bases and bytes T, their slices r, all in blocks from base on, each in a block of its own. -/
structure Spans (w : World) (base X n : Nat) (T : Nat → Nat × List Nat) (r : Nat → Value) : Prop where
  blk : ∃ D, w.heap[X]? = some (.cells D 33 (0, 0)) ∧ ∀ i, i < n → D[i * 2]? = some (.int .i64 ((T i).1 : Int)) ∧ D[i * 2 + 1]? = some (r i)
  own : ∀ i, i < n → OwB w base (r i) (T i).2
  low : base ≤ X
  apart : ∀ i j, i < n → j < n → i ≠ j → ∀ b, (r i).ownBlock = some b → (r j).ownBlock ≠ some b
  far : ∀ i, i < n → (r i).ownBlock ≠ some X

section
variable {w w' : World} {base X n : Nat} {T : Nat → Nat × List Nat} {r : Nat → Value}
theorem Spans.lt (h : Spans w base X n T r) : X < w.heap.size := by
  obtain ⟨D, h1, _⟩ := h.blk
  exact (Array.getElem?_eq_some_iff.1 h1).1
theorem Spans.keep (h : Spans w base X n T r) (hk : ∀ b, base ≤ b → b < w.heap.size → w'.heap[b]? = w.heap[b]?) : Spans w' base X n T r := by
  obtain ⟨D, h1, h2⟩ := h.blk
  exact ⟨⟨D, (hk X h.low h.lt).trans h1, h2⟩, fun i hi => (h.own i hi).keep fun j hj => hk j ((h.own i hi).inside j hj).1 ((h.own i hi).inside j hj).2, h.low, h.apart, h.far⟩
theorem Spans.below (h : Spans w base X n T r) (hb : Below w.heap.size w w') : Spans w' base X n T r := h.keep fun b _ hl => hb.block b hl
theorem Spans.chg {F : Nat → Prop} (h : Spans w base X n T r) (hc : Chg F w w') (hF : ∀ b, F b → b < base) : Spans w' base X n T r := h.keep fun b hb hl => hc.block b hl fun hf => by have := hF b hf; omega
theorem Spans.cells (h : Spans w base X n T r) {i : Nat} (hi : i < n) : w.cell? ⟨X, i * 2, none⟩ = some (.int .i64 ((T i).1 : Int)) ∧ w.cell? ⟨X, i * 2 + 1, none⟩ = some (r i) := by
  obtain ⟨D, h1, h2⟩ := h.blk
  exact ⟨(cell_of_row _ _ _ _ _ _ h1).trans (h2 i hi).1, (cell_of_row _ _ _ _ _ _ h1).trans (h2 i hi).2⟩
end

/-- The first j of n spans are laid; the rest is zero. -/
structure SpTo (w : World) (base X n : Nat) (T : Nat → Nat × List Nat) (r : Nat → Value) (j : Nat) : Prop where
  blk : ∃ D, w.heap[X]? = some (.cells D 33 (0, 0)) ∧ D.size = n * 2 ∧ ∀ i, i < j → D[i * 2]? = some (.int .i64 ((T i).1 : Int)) ∧ D[i * 2 + 1]? = some (r i)
  own : ∀ i, i < j → OwB w base (r i) (T i).2
  low : base ≤ X
  apart : ∀ i k, i < j → k < j → i ≠ k → ∀ b, (r i).ownBlock = some b → (r k).ownBlock ≠ some b
  far : ∀ i, i < j → (r i).ownBlock ≠ some X
theorem SpTo.lt {w : World} {base X n : Nat} {T : Nat → Nat × List Nat} {r : Nat → Value} {j : Nat} (h : SpTo w base X n T r j) : X < w.heap.size := by
  obtain ⟨D, h1, _⟩ := h.blk
  exact (Array.getElem?_eq_some_iff.1 h1).1
theorem SpTo.below {w w' : World} {base X n : Nat} {T : Nat → Nat × List Nat} {r : Nat → Value} {j : Nat} (h : SpTo w base X n T r j) (hb : Below w.heap.size w w') : SpTo w' base X n T r j := by
  obtain ⟨D, h1, h2⟩ := h.blk
  exact ⟨⟨D, (hb.block X h.lt).trans h1, h2⟩, fun i hi => (h.own i hi).below hb, h.low, h.apart, h.far⟩
theorem SpTo.cells {w : World} {base X n : Nat} {T : Nat → Nat × List Nat} {r : Nat → Value} {j : Nat} (h : SpTo w base X n T r j) {i : Nat} (hi : i < n) : (∃ u, w.cell? ⟨X, i * 2, none⟩ = some u) ∧ (∃ u, w.cell? ⟨X, i * 2 + 1, none⟩ = some u) ∧ ∀ o, w.frozen? ⟨X, o, none⟩ = false := by
  obtain ⟨D, h1, h2, _⟩ := h.blk
  exact ⟨⟨_, (cell_of_row _ _ _ _ _ _ h1).trans (Array.getElem?_eq_getElem (by omega))⟩, ⟨_, (cell_of_row _ _ _ _ _ _ h1).trans (Array.getElem?_eq_getElem (by omega))⟩, fun o => frozen_of_row _ _ _ _ _ h1⟩
/-- One more. -/
theorem SpTo.put {w w4 : World} {base X n : Nat} {T : Nat → Nat × List Nat} {r : Nat → Value} {j : Nat} (h : SpTo w base X n T r j) (hj : j < n) (hb : Below w.heap.size w w4) {u : Value} (hu : OwB w4 w.heap.size u (T j).2) (hbase : base ≤ w.heap.size) :
    SpTo ((w4.setCell ⟨X, j * 2, none⟩ (.int .i64 ((T j).1 : Int))).setCell ⟨X, j * 2 + 1, none⟩ u) base X n T (fun i => if i = j then u else r i) (j + 1) := by
  obtain ⟨D, h1, h2, h3⟩ := (h.below hb).blk
  have hXl := h.lt
  have huX : u.ownBlock ≠ some X := fun e => by have := (hu.inside X e).1; omega
  have hk : ∀ b, b ≠ X → ((w4.setCell ⟨X, j * 2, none⟩ (.int .i64 ((T j).1 : Int))).setCell ⟨X, j * 2 + 1, none⟩ u).heap[b]? = w4.heap[b]? := fun b hne => (Below.heap_setCell _ _ _ _ hne).trans (Below.heap_setCell _ _ _ _ hne)
  refine ⟨⟨_, heap_setCell_same _ X _ _ _ _ (heap_setCell_same w4 X _ _ _ _ h1), by simpa using h2, fun i hi => ?_⟩, fun i hi => ?_, h.low, fun i k hi hk' hik b hb1 hb2 => ?_, fun i hi => ?_⟩
  · by_cases e : i = j
    · subst e
      rw [if_pos rfl]
      refine ⟨?_, ?_⟩
      · rw [Array.getElem?_setIfInBounds_ne (by omega), Array.getElem?_setIfInBounds_self_of_lt (by omega)]
      · rw [Array.getElem?_setIfInBounds_self_of_lt (by simp; omega)]
    · rw [if_neg e]
      have h4 := h3 i (by omega)
      refine ⟨?_, ?_⟩
      · rw [Array.getElem?_setIfInBounds_ne (by omega), Array.getElem?_setIfInBounds_ne (by omega)]; exact h4.1
      · rw [Array.getElem?_setIfInBounds_ne (by omega), Array.getElem?_setIfInBounds_ne (by omega)]; exact h4.2
  · by_cases e : i = j
    · subst e
      rw [if_pos rfl]
      exact (hu.mono hbase).keep fun b hb' => hk b fun e => huX (by rw [hb', e])
    · rw [if_neg e]
      have h4 := h.own i (by omega)
      exact (h4.below hb).keep fun b hb' => hk b fun e => h.far i (by omega) (by rw [hb', e])
  · by_cases ei : i = j
    · have ek : k ≠ j := fun e => hik (by omega)
      rw [if_pos ei] at hb1
      rw [if_neg ek] at hb2
      have := (hu.inside b hb1).1
      have := ((h.own k (by omega)).inside b hb2).2
      omega
    · rw [if_neg ei] at hb1
      by_cases ek : k = j
      · rw [if_pos ek] at hb2
        have := (hu.inside b hb2).1
        have := ((h.own i (by omega)).inside b hb1).2
        omega
      · rw [if_neg ek] at hb2
        exact h.apart i k (by omega) (by omega) hik b hb1 hb2
  · by_cases e : i = j
    · rw [if_pos e]; exact huX
    · rw [if_neg e]; exact h.far i (by omega)
theorem SpTo.done {w : World} {base X n : Nat} {T : Nat → Nat × List Nat} {r : Nat → Value} (h : SpTo w base X n T r n) : Spans w base X n T r := by
  obtain ⟨D, h1, _, h2⟩ := h.blk
  exact ⟨⟨D, h1, h2⟩, h.own, h.low, h.apart, h.far⟩

/-- The safe bytes of an area. -/
def safeT (s : Nat → Pt) (i : Nat) : Nat × List Nat := ((s i).B, (s i).bs.take (s i).k)

/-- What Image answers. -/
structure ImgD (w : World) (n : Nat) (T : Nat → Nat × List Nat) (e : Ending) (w' : World) : Prop where
  ex : ∃ X r, e = .returned (.slice (some ⟨X, 0, none⟩) n n) ∧ Spans w' w.heap.size X n T r
  bel : Below w.heap.size w w'

set_option maxRecDepth 100000 in
set_option maxHeartbeats 400000 in
theorem imageD_nil (w : World) : Calls Try.prog 33 #[.pointer none] w fun e w' => e = .returned (.slice none 0 0) ∧ w' = w := by
  go_enter Try.func33, Try.ntmps33
  go_wp2_with fail
  go_ret
  exact ⟨rfl, rfl⟩

section
variable {w : World} {F : Nat → Prop} {p : Nat} {am : Bool} {n : Nat} {s : Nat → Pt}

set_option maxRecDepth 100000 in
set_option maxHeartbeats 1600000 in
theorem imageD_ok (h : Dsk w F p am n s) :
    Calls Try.prog 33 #[.pointer (some ⟨p, 0, none⟩)] w fun e w' => ImgD w n (safeT s) e w' := by
  obtain ⟨g, C, q, v, h⟩ := h
  obtain ⟨d0, d1, df⟩ := h.cells
  have hn := h.few.2
  have hplt := h.plt
  have hmk := mk_any 53 33 _ 2 32 Try.underlying53 infoSpan n (by omega) (by omega) w
  have hb0 : Below w.heap.size w (w.alloc (.cells (madeCells #[.int .i64 0, .slice none 0 0] (n * 2)) 33)) := (Below.refl _ _).alloc (Nat.le_refl _) _
  obtain ⟨W0, hW0⟩ : ∃ W0, W0 = w.alloc (.cells (madeCells #[.int .i64 0, .slice none 0 0] (n * 2)) 33) := ⟨_, rfl⟩
  have hnew : W0.heap[w.heap.size]? = some (.cells (madeCells #[.int .i64 0, .slice none 0 0] (n * 2)) 33 (0, 0)) := by rw [hW0]; exact heap_alloc_new w _
  rw [← hW0] at hmk hb0
  have hsp0 : SpTo W0 w.heap.size w.heap.size n (safeT s) (fun _ => .int .i64 0) 0 := ⟨⟨_, hnew, size_madeCells _ _, fun i hi => by omega⟩, fun i hi => by omega, Nat.le_refl _, fun i k hi => by omega, fun i hi => by omega⟩
  have e1 : W0.cell? ⟨p, 1, none⟩ = some (.slice (some ⟨g, 0, none⟩) n n) := by rw [hb0.cell (p := ⟨p, 1, none⟩) hplt]; exact d1
  obtain ⟨X, hX⟩ : ∃ X, X = w.heap.size := ⟨_, rfl⟩
  rw [← hX] at hmk hsp0
  have hXw : w.heap.size ≤ X := by omega
  rw [show SpTo W0 X X n (safeT s) (fun _ => .int .i64 0) 0 = SpTo W0 w.heap.size X n (safeT s) (fun _ => .int .i64 0) 0 by rw [← hX]] at hsp0
  clear hnew hW0 hX
  replace h := hide_it h
  replace hsp0 := hide_it hsp0
  go_enter Try.func33, Try.ntmps33
  go_wp2_with fail
  go_loopw [19, 4, 5] (fun i _ _ wr => ∃ j : Nat, j ≤ n ∧ i = .int .i64 (j : Int) ∧ Hid ((∃ r, SpTo wr w.heap.size X n (safeT s) r j) ∧ Below w.heap.size w wr)) (fun i _ _ _ => n - (intOf i).toNat)
  case atStart => exact ⟨0, by omega, rfl, ⟨_, hsp0.out⟩, hb0⟩
  case round =>
    obtain ⟨j, hj, rfl, hR⟩ := hrel
    clear d0 d1 df hsp0 hb0 hmk e1
    obtain ⟨⟨r, hS⟩, hb⟩ := hR.out
    clear hR
    by_cases hlt : j < n
    · have hD := h.out.below hb
      obtain ⟨a0, a1, a2, a3, a4, aF⟩ := hD.at_ hlt
      obtain ⟨w3, hw3⟩ : ∃ w3, w3 = wr.alloc (.cells #[.pointer (some ⟨q j, 0, none⟩), .int .i64 (s j).fd, .int .i64 (s j).fk, .int .u8 ((s j).ft : Int), .int .i64 ((s j).c : Int)] 111) := ⟨_, rfl⟩
      have hb3 : Below wr.heap.size wr w3 := by rw [hw3]; exact (Below.refl _ _).alloc (Nat.le_refl _) _
      have hD3 := hD.below hb3
      have hS3 := hS.below hb3
      have hbw3 := hb.trans (hb3.mono hb.size)
      have him := image_any w3 (hD3.ar j hlt) (hD3.le j hlt)
      rw [hw3] at him
      replace hw3 := hide_it hw3
      clear hD hD3 hS hb3 hb
      go_wp2_with fail
      refine him.mono ?_
      rintro e w4 ⟨⟨u, rfl, hu⟩, hb4⟩
      rw [← hw3.out] at hu hb4
      obtain ⟨⟨u0, hu0⟩, ⟨u1, hu1⟩, hfz⟩ := (hS3.below hb4).cells hlt
      have hS4 := hS3.put hlt hb4 hu hbw3.size
      have hb5 : Below w.heap.size w ((w4.setCell ⟨X, j * 2, none⟩ (.int .i64 ((s j).B : Int))).setCell ⟨X, j * 2 + 1, none⟩ u) := ((hbw3.trans (hb4.mono hbw3.size)).setCell hXw _).setCell hXw _
      obtain ⟨a9, c9, e9, _⟩ := hu.row
      obtain ⟨l9, hl9⟩ : ∃ l, l = ((s j).bs.take (s j).k).length := ⟨_, rfl⟩
      rw [← hl9] at e9
      clear hl9
      subst e9
      replace hS4 := hide_it hS4
      replace hb5 := hide_it hb5
      clear him hw3 hS3 hbw3 hb4 hu
      go_wp2_with fail
      go_roundw
      case rel => exact ⟨j + 1, by omega, by go_num, ⟨_, hS4.out⟩, hb5.out⟩
      case measure => simp [intOf]; omega
    · obtain rfl : j = n := by omega
      go_wp2_with fail
      go_ret
      exact ⟨⟨X, r, rfl, hS.done⟩, hb⟩
end

end Go.Proofs.Ytdodnegdpdhbiaa
