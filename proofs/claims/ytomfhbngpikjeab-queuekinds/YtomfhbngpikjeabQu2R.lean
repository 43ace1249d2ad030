/- A queue of pointers in memory, and the calls that only read it; New; line. -/
import Derived.Test.YtomfhbngpikjeabQu1
namespace Go.Proofs.Ytomfhbngpikjeab
open Go.RowKit

/-- A thing as a value. -/
def encR (x : (Option Addr)) : Value := .pointer x
theorem infoQR : (Try.prog.info? 32).map (fun i => (i.zero, i.size, i.bytes)) = some (some (.pointer none), 1, 8) := by kernel_rfl

/-- The queue at block b, its ring of the length R at block g (none: g is b), its things xs. -/
structure QrR (w : World) (b g most R f : Nat) (xs : List (Option Addr)) : Prop where
  blk : ∃ v, w.heap[b]? = some (.cells #[.int .i64 (most : Int), .int .i64 (f : Int), .int .i64 (xs.length : Int), v] 62 (0, 0)) ∧
    ((R = 0 ∧ f = 0 ∧ xs = [] ∧ v = .slice none 0 0 ∧ g = b) ∨ ∃ cur : List Value, v = .slice (some ⟨g, 0, none⟩) R R ∧ g ≠ b ∧ cur.length = R ∧ w.heap[g]? = some (.cells cur.toArray 32 (0, 0)) ∧ Laid cur f (xs.map encR))
  room : R ≤ most
  most_le : most ≤ 65536
/-- The queue at block b with its things. -/
def QuR (w : World) (b g most : Nat) (xs : List (Option Addr)) : Prop := ∃ R f, QrR w b g most R f xs

theorem QrR.len {w : World} {b g most R f : Nat} {xs : List (Option Addr)} (h : QrR w b g most R f xs) : xs.length ≤ R := by
  obtain ⟨v, _, ⟨_, _, rfl, _⟩ | ⟨cur, _, _, hR, _, hl⟩⟩ := h.blk
  · simp
  · have := hl.len; simp at this; omega
theorem QrR.lt {w : World} {b g most R f : Nat} {xs : List (Option Addr)} (h : QrR w b g most R f xs) : b < w.heap.size ∧ g < w.heap.size := by
  obtain ⟨v, hb, ⟨_, _, _, _, rfl⟩ | ⟨cur, _, _, _, hg, _⟩⟩ := h.blk
  · exact ⟨(Array.getElem?_eq_some_iff.1 hb).1, (Array.getElem?_eq_some_iff.1 hb).1⟩
  · exact ⟨(Array.getElem?_eq_some_iff.1 hb).1, (Array.getElem?_eq_some_iff.1 hg).1⟩
theorem QrR.keep {w w' : World} {b g most R f : Nat} {xs : List (Option Addr)} (h : QrR w b g most R f xs) (hb : w'.heap[b]? = w.heap[b]?) (hg : w'.heap[g]? = w.heap[g]?) : QrR w' b g most R f xs := by
  refine ⟨?_, h.room, h.most_le⟩
  rw [hb, hg]
  exact h.blk
theorem QuR.lt {w : World} {b g most : Nat} {xs : List (Option Addr)} (h : QuR w b g most xs) : b < w.heap.size ∧ g < w.heap.size := by
  obtain ⟨R, f, h⟩ := h
  exact h.lt
theorem QuR.keep {w w' : World} {b g most : Nat} {xs : List (Option Addr)} (h : QuR w b g most xs) (hb : w'.heap[b]? = w.heap[b]?) (hg : w'.heap[g]? = w.heap[g]?) : QuR w' b g most xs := by
  obtain ⟨R, f, h⟩ := h
  exact ⟨R, f, h.keep hb hg⟩
theorem QuR.below {w w' : World} {b g most : Nat} {xs : List (Option Addr)} (h : QuR w b g most xs) (hb : Below w.heap.size w w') : QuR w' b g most xs :=
  h.keep (hb.block _ h.lt.1) (hb.block _ h.lt.2)
theorem QuR.len {w : World} {b g most : Nat} {xs : List (Option Addr)} (h : QuR w b g most xs) : xs.length ≤ most ∧ most ≤ 65536 := by
  obtain ⟨R, f, h⟩ := h
  have := h.len
  have := h.room
  exact ⟨by omega, h.most_le⟩

/-- The cells of the queue's block. -/
theorem QrR.cells {w : World} {b g most R f : Nat} {xs : List (Option Addr)} (h : QrR w b g most R f xs) : ∃ v, w.cell? ⟨b, 0, none⟩ = some (.int .i64 (most : Int)) ∧ w.cell? ⟨b, 1, none⟩ = some (.int .i64 (f : Int)) ∧ w.cell? ⟨b, 2, none⟩ = some (.int .i64 (xs.length : Int)) ∧ w.cell? ⟨b, 3, none⟩ = some v ∧
    ((R = 0 ∧ f = 0 ∧ xs = [] ∧ v = .slice none 0 0 ∧ g = b) ∨ ∃ cur : List Value, v = .slice (some ⟨g, 0, none⟩) R R ∧ g ≠ b ∧ cur.length = R ∧ w.heap[g]? = some (.cells cur.toArray 32 (0, 0)) ∧ Laid cur f (xs.map encR)) := by
  obtain ⟨v, hb, hr⟩ := h.blk
  exact ⟨v, cell_of_row _ _ _ _ _ _ hb, cell_of_row _ _ _ _ _ _ hb, cell_of_row _ _ _ _ _ _ hb, cell_of_row _ _ _ _ _ _ hb, hr⟩

set_option maxRecDepth 100000 in
set_option maxHeartbeats 400000 in
theorem lenR_any (b g most : Nat) (xs : List (Option Addr)) (w : World) (h : QuR w b g most xs) :
    Calls Try.prog 31 #[.pointer (some ⟨b, 0, none⟩)] w fun e w' => e = .returned (.int .i64 (xs.length : Int)) ∧ w' = w := by
  obtain ⟨R, f, h⟩ := h
  obtain ⟨v, _, _, c2, _, _⟩ := h.cells
  clear h
  go_enter Try.func31, Try.ntmps31
  go_wp2
  go_ret
  exact ⟨rfl, rfl⟩
set_option maxRecDepth 100000 in
set_option maxHeartbeats 400000 in
theorem lenR_none (w : World) : Calls Try.prog 31 #[.pointer none] w fun e w' => e = .returned (.int .i64 0) ∧ w' = w := by
  go_enter Try.func31, Try.ntmps31
  go_wp2
  go_ret
  exact ⟨rfl, rfl⟩

set_option maxRecDepth 100000 in
set_option maxHeartbeats 400000 in
theorem firstR_nil (b g most : Nat) (w : World) (h : QuR w b g most []) :
    Calls Try.prog 24 #[.pointer (some ⟨b, 0, none⟩)] w fun e w' => e = .returned (.tuple #[.pointer none, .bool false]) ∧ w' = w := by
  have hl := lenR_any b g most [] w h
  clear h
  simp only [List.length_nil, Int.natCast_zero] at hl
  go_enter Try.func24, Try.ntmps24
  go_wp2_with fail
  refine hl.mono ?_
  rintro e w1 ⟨rfl, hq⟩
  have hq2 := hq.symm
  subst hq2
  clear hq hl
  go_wp2
  refine bodyPost_ret (v := .tuple #[.pointer none, .bool false]) (by simp [results, Try.results24, go_sem]) rfl ?_
  exact ⟨rfl, rfl⟩
set_option maxRecDepth 100000 in
set_option maxHeartbeats 400000 in
theorem firstR_none (w : World) :
    Calls Try.prog 24 #[.pointer none] w fun e w' => e = .returned (.tuple #[.pointer none, .bool false]) ∧ w' = w := by
  have hl := lenR_none w
  go_enter Try.func24, Try.ntmps24
  go_wp2_with fail
  refine hl.mono ?_
  rintro e w1 ⟨rfl, hq⟩
  have hq2 := hq.symm
  subst hq2
  clear hq hl
  go_wp2
  refine bodyPost_ret (v := .tuple #[.pointer none, .bool false]) (by simp [results, Try.results24, go_sem]) rfl ?_
  exact ⟨rfl, rfl⟩
set_option maxRecDepth 100000 in
set_option maxHeartbeats 400000 in
theorem firstR_cons (b g most : Nat) (x : (Option Addr)) (xs : List (Option Addr)) (w : World) (h : QuR w b g most (x :: xs)) :
    Calls Try.prog 24 #[.pointer (some ⟨b, 0, none⟩)] w fun e w' => e = .returned (.tuple #[.pointer x, .bool true]) ∧ Below w.heap.size w w' := by
  have hl := lenR_any b g most (x :: xs) w h
  obtain ⟨R, f, h⟩ := h
  obtain ⟨v, c0, c1, c2, c3, ⟨_, _, h0, _⟩ | ⟨cur, rfl, hgb, hR, hg, hla⟩⟩ := h.cells
  · cases h0
  have hf := hla.at_
  have hfR : f < R := by omega
  have hfi : (f : Int) < (R : Int) := by omega
  have hx : w.cell? ⟨g, f, none⟩ = some (.pointer x) := by
    rw [cell_of_row _ _ _ _ _ _ hg]
    have := hla.first
    simpa [encR] using this
  have hb0 : Below w.heap.size w w := Below.refl _ _
  obtain ⟨n, hn⟩ : ∃ n, n = (x :: xs).length := ⟨_, rfl⟩
  have hn0 : ¬ (n : Int) = 0 := by rw [hn]; simp; omega
  rw [← hn] at hl c2
  clear h hla hg hn hR hf
  go_enter Try.func24, Try.ntmps24
  go_wp2_with fail
  refine hl.mono ?_
  rintro e w1 ⟨rfl, hq⟩
  have hq2 := hq.symm
  subst hq2
  clear hq hl
  go_wp2
  go_quiet (fail)
  go_wp2
  refine bodyPost_ret (v := .tuple #[.pointer x, .bool true]) (by simp [results, Try.results24, go_sem]) rfl ?_
  exact ⟨rfl, below_drewN (Below.refl _ _) _⟩

set_option maxRecDepth 100000 in
set_option maxHeartbeats 400000 in
theorem newR_no (most : Int) (w : World) (h : newE most ≠ 0) :
    Calls Try.prog 6 #[.int .i64 most] w fun e w' => e = .returned (.tuple #[.pointer none, .int .i64 (newE most)]) ∧ w' = w := by
  unfold newE at h ⊢
  by_cases h1 : most < 0
  · rw [if_pos h1]
    clear h
    go_enter Try.func6, Try.ntmps6
    go_wp2
    refine bodyPost_ret (v := .tuple #[.pointer none, .int .i64 2]) (by simp [results, Try.results6, go_sem]) rfl ?_
    exact ⟨rfl, rfl⟩
  · by_cases h2 : 65536 < most
    · rw [if_neg h1, if_pos h2]
      clear h
      go_enter Try.func6, Try.ntmps6
      go_wp2
      refine bodyPost_ret (v := .tuple #[.pointer none, .int .i64 3]) (by simp [results, Try.results6, go_sem]) rfl ?_
      exact ⟨rfl, rfl⟩
    · rw [if_neg h1, if_neg h2] at h
      exact absurd rfl h
set_option maxRecDepth 100000 in
set_option maxHeartbeats 400000 in
theorem newR_any (most : Nat) (w : World) (h : most ≤ 65536) :
    Calls Try.prog 6 #[.int .i64 (most : Int)] w fun e w' => e = .returned (.tuple #[.pointer (some ⟨w.heap.size, 0, none⟩), .int .i64 0]) ∧ QuR w' w.heap.size w.heap.size most [] ∧ Below w.heap.size w w' := by
  have h1 : ¬ (most : Int) < 0 := by omega
  have h2 : ¬ (65536 : Int) < (most : Int) := by omega
  have hh := heap_alloc_new w (.cells #[.int .i64 (most : Int), .int .i64 0, .int .i64 0, .slice none 0 0] 62)
  have hb := (Below.refl w.heap.size w).alloc (Nat.le_refl _) (.cells #[.int .i64 (most : Int), .int .i64 0, .int .i64 0, .slice none 0 0] 62)
  go_enter Try.func6, Try.ntmps6
  go_wp2
  refine bodyPost_ret (v := .tuple #[.pointer (some ⟨w.heap.size, 0, none⟩), .int .i64 0]) (by simp [results, Try.results6, go_sem]) rfl ?_
  exact ⟨rfl, ⟨0, 0, ⟨_, hh, .inl ⟨rfl, rfl, rfl, rfl, rfl⟩⟩, by omega, h⟩, hb⟩

end Go.Proofs.Ytomfhbngpikjeab
