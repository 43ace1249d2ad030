/- What is answered, and that two answers are alike. -/
import Derived.Test.YtdodnegdpdhbiaaDk13
import Derived.Test.YtdodnegdpdhbiaaOpenCal
namespace Go.Proofs.Ytdodnegdpdhbiaa
open Go.RowKit

/-- It lies in blocks from base on. -/
def lowA (base : Nat) (a : Option Addr) : Prop := ∀ ad, a = some ad → base ≤ ad.block
theorem RowB.keep {w w' : World} {a : Option Addr} {zs : List Nat} (h : RowB w a zs) (hs : w.heap.size ≤ w'.heap.size) (hk : ∀ ad : Addr, a = some ad → ad.block < w.heap.size → w'.heap[ad.block]? = w.heap[ad.block]?) : RowB w' a zs := by
  rcases h with h | ⟨b, o, e, hlt, hc⟩
  · exact .inl h
  · have hb : w'.heap[b]? = w.heap[b]? := hk ⟨b, o, none⟩ e hlt
    exact .inr ⟨b, o, e, Nat.lt_of_lt_of_le hlt hs, fun i hi => (World.cell?_of_block (w := w) (a := ⟨b, o + i, none⟩) hb).trans (hc i hi)⟩

set_option maxRecDepth 100000 in
set_option maxHeartbeats 400000 in
theorem equal_same (a b : Option Addr) (n ca cb : Nat) (zs : List Nat) (w : World) (ha : RowB w a zs) (hb : RowB w b zs) (hz : zs.length = n) (hl : n ≤ 211106232532800) :
    Calls Try.prog 30 #[.slice a n ca, .slice b n cb] w fun e w' => e = .returned (.bool true) ∧ Below w.heap.size w w' := by
  go_enter Try.func30, Try.ntmps30
  go_wp2_with fail
  go_loopw [13, 5] (fun i _ wr => ∃ k : Nat, k ≤ n ∧ i = .int .i64 (k : Int) ∧ Below w.heap.size w wr) (fun i _ _ => n - (intOf i).toNat)
  case atStart => exact ⟨0, by omega, rfl, Below.refl _ _⟩
  case round =>
    obtain ⟨k, hk, rfl, hbw⟩ := hrel
    by_cases hlt : k < n
    · obtain ⟨b1, o1, rfl, g1, c1⟩ := ha.here (i := k) (by omega)
      obtain ⟨b2, o2, rfl, g2, c2⟩ := hb.here (i := k) (by omega)
      have d1 := (hbw.cell (p := ⟨b1, o1 + k, none⟩) g1).trans (c1 k (by omega))
      have d2 := (hbw.cell (p := ⟨b2, o2 + k, none⟩) g2).trans (c2 k (by omega))
      have h1 : b1 < wr.heap.size := Nat.lt_of_lt_of_le g1 hbw.size
      have h2 : b2 < wr.heap.size := Nat.lt_of_lt_of_le g2 hbw.size
      have hs := hbw.size
      clear c1 c2 ha hb hz
      go_wp2_with fail
      refine wp_calm ?_
      refine wp_region_held_drew (S := (fun w' => Below wr.heap.size wr w')) (by kernel_rfl) ?_ (fun hHeld => ?_)
      · exact (Below.refl _ _).drew
      refine take_on (i := 0) (v := ?_) rfl rfl (by kernel_rfl) (by kernel_rfl) (by kernel_rfl) (fun _ _ _ h => h) rfl ?_ hHeld ?_
      rotate_left
      · (intro wq hSq; have q1 := (hSq.cell (p := ⟨b1, o1 + k, none⟩) h1).trans d1; have q2 := (hSq.cell (p := ⟨b2, o2 + k, none⟩) h2).trans d2; go_simp <;> first | with_reducible rfl | rfl)
      simp only [Act.put, List.setIfInBounds_toArray, List.set_cons_zero, List.set_cons_succ]
      refine take_on (i := 1) (v := ?_) rfl rfl (by kernel_rfl) (by kernel_rfl) (by kernel_rfl) (fun _ _ _ h => h) rfl ?_ hHeld ?_
      rotate_left
      · (intro wq hSq; have q1 := (hSq.cell (p := ⟨b1, o1 + k, none⟩) h1).trans d1; have q2 := (hSq.cell (p := ⟨b2, o2 + k, none⟩) h2).trans d2; go_simp <;> first | with_reducible rfl | rfl)
      simp only [Act.put, List.setIfInBounds_toArray, List.set_cons_zero, List.set_cons_succ]
      refine take_on (i := 2) (v := ?_) rfl rfl (by kernel_rfl) (by kernel_rfl) (by kernel_rfl) (fun _ _ _ h => h) rfl ?_ hHeld ?_
      rotate_left
      · (intro wq hSq; have q1 := (hSq.cell (p := ⟨b1, o1 + k, none⟩) h1).trans d1; have q2 := (hSq.cell (p := ⟨b2, o2 + k, none⟩) h2).trans d2; go_simp <;> first | with_reducible rfl | rfl)
      simp only [Act.put, List.setIfInBounds_toArray, List.set_cons_zero, List.set_cons_succ]
      refine take_on (i := 3) (v := ?_) rfl rfl (by kernel_rfl) (by kernel_rfl) (by kernel_rfl) (fun _ _ _ h => h) rfl ?_ hHeld ?_
      rotate_left
      · (intro wq hSq; have q1 := (hSq.cell (p := ⟨b1, o1 + k, none⟩) h1).trans d1; have q2 := (hSq.cell (p := ⟨b2, o2 + k, none⟩) h2).trans d2; go_simp <;> first | with_reducible rfl | rfl)
      simp only [Act.put, List.setIfInBounds_toArray, List.set_cons_zero, List.set_cons_succ]
      refine take_on (i := 4) (v := ?_) rfl rfl (by kernel_rfl) (by kernel_rfl) (by kernel_rfl) (fun _ _ _ h => h) rfl ?_ hHeld ?_
      rotate_left
      · (intro wq hSq; have q1 := (hSq.cell (p := ⟨b1, o1 + k, none⟩) h1).trans d1; have q2 := (hSq.cell (p := ⟨b2, o2 + k, none⟩) h2).trans d2; go_simp <;> first | with_reducible rfl | rfl)
      simp only [Act.put, List.setIfInBounds_toArray, List.set_cons_zero, List.set_cons_succ]
      refine take_on (i := 5) (v := ?_) rfl rfl (by kernel_rfl) (by kernel_rfl) (by kernel_rfl) (fun _ _ _ h => h) rfl ?_ hHeld ?_
      rotate_left
      · (intro wq hSq; have q1 := (hSq.cell (p := ⟨b1, o1 + k, none⟩) h1).trans d1; have q2 := (hSq.cell (p := ⟨b2, o2 + k, none⟩) h2).trans d2; go_simp <;> first | with_reducible rfl | rfl)
      simp only [Act.put, List.setIfInBounds_toArray, List.set_cons_zero, List.set_cons_succ]
      refine take_on (i := 6) (v := ?_) rfl rfl (by kernel_rfl) (by kernel_rfl) (by kernel_rfl) (fun _ _ _ h => h) rfl ?_ hHeld ?_
      rotate_left
      · (intro wq hSq; have q1 := (hSq.cell (p := ⟨b1, o1 + k, none⟩) h1).trans d1; have q2 := (hSq.cell (p := ⟨b2, o2 + k, none⟩) h2).trans d2; go_simp <;> first | with_reducible rfl | rfl)
      simp only [Act.put, List.setIfInBounds_toArray, List.set_cons_zero, List.set_cons_succ]
      refine take_on (i := 7) (v := ?_) rfl rfl (by kernel_rfl) (by kernel_rfl) (by kernel_rfl) (fun _ _ _ h => h) rfl ?_ hHeld ?_
      rotate_left
      · (intro wq hSq; have q1 := (hSq.cell (p := ⟨b1, o1 + k, none⟩) h1).trans d1; have q2 := (hSq.cell (p := ⟨b2, o2 + k, none⟩) h2).trans d2; go_simp <;> first | with_reducible rfl | rfl)
      simp only [Act.put, List.setIfInBounds_toArray, List.set_cons_zero, List.set_cons_succ]
      refine take_on (i := 8) (v := ?_) rfl rfl (by kernel_rfl) (by kernel_rfl) (by kernel_rfl) (fun _ _ _ h => h) rfl ?_ hHeld ?_
      rotate_left
      · (intro wq hSq; have q1 := (hSq.cell (p := ⟨b1, o1 + k, none⟩) h1).trans d1; have q2 := (hSq.cell (p := ⟨b2, o2 + k, none⟩) h2).trans d2; go_simp <;> first | with_reducible rfl | rfl)
      simp only [Act.put, List.setIfInBounds_toArray, List.set_cons_zero, List.set_cons_succ]
      refine wpAnyH_done (by kernel_rfl) ?_ _
      go_wp2_with fail
      go_roundw
      case rel => exact ⟨k + 1, by omega, by go_num, hbw.trans (hHeld.mono hs)⟩
      case measure => simp [intOf]; omega
    · clear ha hb
      go_wp2_with fail
      go_ret
      exact ⟨rfl, hbw⟩

/-- A row of spans: the slice's address, the bases and bytes, all in blocks from base on. -/
def RowT (w : World) (base : Nat) (a : Option Addr) (n : Nat) (T : Nat → Nat × List Nat) : Prop :=
  n = 0 ∨ ∃ b o, a = some ⟨b, o, none⟩ ∧ b < w.heap.size ∧ base ≤ b ∧ ∀ i, i < n → ∃ ra rc, w.cell? ⟨b, o + i * 2, none⟩ = some (.int .i64 ((T i).1 : Int)) ∧ w.cell? ⟨b, o + i * 2 + 1, none⟩ = some (.slice ra (T i).2.length rc) ∧ RowB w ra (T i).2 ∧ lowA base ra
theorem RowT.keep {w w' : World} {base : Nat} {a : Option Addr} {n : Nat} {T : Nat → Nat × List Nat} (h : RowT w base a n T) (hs : w.heap.size ≤ w'.heap.size) (hk : ∀ b, base ≤ b → b < w.heap.size → w'.heap[b]? = w.heap[b]?) : RowT w' base a n T := by
  rcases h with h | ⟨b, o, e, hlt, hlo, hc⟩
  · exact .inl h
  · refine .inr ⟨b, o, e, Nat.lt_of_lt_of_le hlt hs, hlo, fun i hi => ?_⟩
    obtain ⟨ra, rc, h1, h2, h3, h4⟩ := hc i hi
    exact ⟨ra, rc, (World.cell?_of_block (w := w) (a := ⟨b, o + i * 2, none⟩) (hk b hlo hlt)).trans h1, (World.cell?_of_block (w := w) (a := ⟨b, o + i * 2 + 1, none⟩) (hk b hlo hlt)).trans h2, h3.keep hs fun ad e2 hl => hk _ (h4 ad e2) hl, h4⟩
theorem RowT.below {w w' : World} {base : Nat} {a : Option Addr} {n : Nat} {T : Nat → Nat × List Nat} (h : RowT w base a n T) (hb : Below w.heap.size w w') : RowT w' base a n T := h.keep hb.size fun b _ hl => hb.block b hl
theorem Spans.rowT {w : World} {base X n : Nat} {T : Nat → Nat × List Nat} {r : Nat → Value} (h : Spans w base X n T r) : RowT w base (some ⟨X, 0, none⟩) n T := by
  refine .inr ⟨X, 0, rfl, h.lt, h.low, fun i hi => ?_⟩
  obtain ⟨c0, c1⟩ := h.cells hi
  obtain ⟨ra, rc, e1, e2, _, _, _⟩ := (h.own i hi).row
  refine ⟨ra, rc, by rw [Nat.zero_add]; exact c0, by rw [Nat.zero_add, c1, e1], e2, fun ad hd => ?_⟩
  subst hd
  exact ((h.own i hi).inside ad.block (by rw [e1]; rfl)).1

set_option maxRecDepth 100000 in
set_option maxHeartbeats 800000 in
theorem spansAlike_same (a b : Option Addr) (n ca cb : Nat) (T : Nat → Nat × List Nat) (B1 B2 : Nat) (w : World) (ha : RowT w B1 a n T) (hb : RowT w B2 b n T) (hn : n ≤ 1000000000) (hl : ∀ i, i < n → (T i).2.length ≤ 211106232532800) :
    Calls Try.prog 36 #[.slice a n ca, .slice b n cb] w fun e w' => e = .returned (.bool true) ∧ Below w.heap.size w w' := by
  replace hl := hide_it hl
  go_enter Try.func36, Try.ntmps36
  go_wp2_with fail
  go_loopw [13, 5] (fun i _ wr => ∃ k : Nat, k ≤ n ∧ i = .int .i64 (k : Int) ∧ Below w.heap.size w wr) (fun i _ _ => n - (intOf i).toNat)
  case atStart => exact ⟨0, by omega, rfl, Below.refl _ _⟩
  case round =>
    obtain ⟨k, hk, rfl, hbw⟩ := hrel
    by_cases hlt : k < n
    · obtain ⟨b1, o1, rfl, g1, _, c1⟩ := (ha.below hbw).resolve_left (by omega)
      obtain ⟨b2, o2, rfl, g2, _, c2⟩ := (hb.below hbw).resolve_left (by omega)
      obtain ⟨r1, x1, d1, d2, d3, _⟩ := c1 k hlt
      obtain ⟨r2, x2, e1, e2, e3, _⟩ := c2 k hlt
      have heq := fun W (hW : Below wr.heap.size wr W) => equal_same r1 r2 (T k).2.length x1 x2 (T k).2 W (d3.below hW) (e3.below hW) rfl (hl.out k hlt)
      obtain ⟨L, hL⟩ : ∃ L, L = (T k).2.length := ⟨_, rfl⟩
      obtain ⟨BB, hBB⟩ : ∃ B : Int, B = ((T k).1 : Int) := ⟨_, rfl⟩
      rw [← hL] at heq d2 e2
      rw [← hBB] at d1 e1
      have hs := hbw.size
      clear c1 c2 ha hb d3 e3 hL hBB hl
      go_wp2_with fail
      refine wp_calm ?_
      refine wp_region_held_drew (S := (fun w' => Below wr.heap.size wr w')) (by kernel_rfl) ?_ (fun hHeld => ?_)
      · exact (Below.refl _ _).drew
      refine take_on (i := 0) (v := ?_) rfl rfl (by kernel_rfl) (by kernel_rfl) (by kernel_rfl) (fun _ _ _ h => h) rfl ?_ hHeld ?_
      rotate_left
      · (intro wq hSq; have q1 := (hSq.cell (p := ⟨b1, o1 + k * 2, none⟩) g1).trans d1; have q2 := (hSq.cell (p := ⟨b1, o1 + k * 2 + 1, none⟩) g1).trans d2; have q3 := (hSq.cell (p := ⟨b2, o2 + k * 2, none⟩) g2).trans e1; have q4 := (hSq.cell (p := ⟨b2, o2 + k * 2 + 1, none⟩) g2).trans e2; go_simp <;> first | with_reducible rfl | rfl)
      simp only [Act.put, List.setIfInBounds_toArray, List.set_cons_zero, List.set_cons_succ]
      refine take_on (i := 1) (v := ?_) rfl rfl (by kernel_rfl) (by kernel_rfl) (by kernel_rfl) (fun _ _ _ h => h) rfl ?_ hHeld ?_
      rotate_left
      · (intro wq hSq; have q1 := (hSq.cell (p := ⟨b1, o1 + k * 2, none⟩) g1).trans d1; have q2 := (hSq.cell (p := ⟨b1, o1 + k * 2 + 1, none⟩) g1).trans d2; have q3 := (hSq.cell (p := ⟨b2, o2 + k * 2, none⟩) g2).trans e1; have q4 := (hSq.cell (p := ⟨b2, o2 + k * 2 + 1, none⟩) g2).trans e2; go_simp <;> first | with_reducible rfl | rfl)
      simp only [Act.put, List.setIfInBounds_toArray, List.set_cons_zero, List.set_cons_succ]
      refine take_on (i := 2) (v := ?_) rfl rfl (by kernel_rfl) (by kernel_rfl) (by kernel_rfl) (fun _ _ _ h => h) rfl ?_ hHeld ?_
      rotate_left
      · (intro wq hSq; have q1 := (hSq.cell (p := ⟨b1, o1 + k * 2, none⟩) g1).trans d1; have q2 := (hSq.cell (p := ⟨b1, o1 + k * 2 + 1, none⟩) g1).trans d2; have q3 := (hSq.cell (p := ⟨b2, o2 + k * 2, none⟩) g2).trans e1; have q4 := (hSq.cell (p := ⟨b2, o2 + k * 2 + 1, none⟩) g2).trans e2; go_simp <;> first | with_reducible rfl | rfl)
      simp only [Act.put, List.setIfInBounds_toArray, List.set_cons_zero, List.set_cons_succ]
      refine take_on (i := 3) (v := ?_) rfl rfl (by kernel_rfl) (by kernel_rfl) (by kernel_rfl) (fun _ _ _ h => h) rfl ?_ hHeld ?_
      rotate_left
      · (intro wq hSq; have q1 := (hSq.cell (p := ⟨b1, o1 + k * 2, none⟩) g1).trans d1; have q2 := (hSq.cell (p := ⟨b1, o1 + k * 2 + 1, none⟩) g1).trans d2; have q3 := (hSq.cell (p := ⟨b2, o2 + k * 2, none⟩) g2).trans e1; have q4 := (hSq.cell (p := ⟨b2, o2 + k * 2 + 1, none⟩) g2).trans e2; go_simp <;> first | with_reducible rfl | rfl)
      simp only [Act.put, List.setIfInBounds_toArray, List.set_cons_zero, List.set_cons_succ]
      refine take_on (i := 4) (v := ?_) rfl rfl (by kernel_rfl) (by kernel_rfl) (by kernel_rfl) (fun _ _ _ h => h) rfl ?_ hHeld ?_
      rotate_left
      · (intro wq hSq; have q1 := (hSq.cell (p := ⟨b1, o1 + k * 2, none⟩) g1).trans d1; have q2 := (hSq.cell (p := ⟨b1, o1 + k * 2 + 1, none⟩) g1).trans d2; have q3 := (hSq.cell (p := ⟨b2, o2 + k * 2, none⟩) g2).trans e1; have q4 := (hSq.cell (p := ⟨b2, o2 + k * 2 + 1, none⟩) g2).trans e2; go_simp <;> first | with_reducible rfl | rfl)
      simp only [Act.put, List.setIfInBounds_toArray, List.set_cons_zero, List.set_cons_succ]
      refine take_on (i := 5) (v := ?_) rfl rfl (by kernel_rfl) (by kernel_rfl) (by kernel_rfl) (fun _ _ _ h => h) rfl ?_ hHeld ?_
      rotate_left
      · (intro wq hSq; have q1 := (hSq.cell (p := ⟨b1, o1 + k * 2, none⟩) g1).trans d1; have q2 := (hSq.cell (p := ⟨b1, o1 + k * 2 + 1, none⟩) g1).trans d2; have q3 := (hSq.cell (p := ⟨b2, o2 + k * 2, none⟩) g2).trans e1; have q4 := (hSq.cell (p := ⟨b2, o2 + k * 2 + 1, none⟩) g2).trans e2; go_simp <;> first | with_reducible rfl | rfl)
      simp only [Act.put, List.setIfInBounds_toArray, List.set_cons_zero, List.set_cons_succ]
      refine take_on (i := 6) (v := ?_) rfl rfl (by kernel_rfl) (by kernel_rfl) (by kernel_rfl) (fun _ _ _ h => h) rfl ?_ hHeld ?_
      rotate_left
      · (intro wq hSq; have q1 := (hSq.cell (p := ⟨b1, o1 + k * 2, none⟩) g1).trans d1; have q2 := (hSq.cell (p := ⟨b1, o1 + k * 2 + 1, none⟩) g1).trans d2; have q3 := (hSq.cell (p := ⟨b2, o2 + k * 2, none⟩) g2).trans e1; have q4 := (hSq.cell (p := ⟨b2, o2 + k * 2 + 1, none⟩) g2).trans e2; go_simp <;> first | with_reducible rfl | rfl)
      simp only [Act.put, List.setIfInBounds_toArray, List.set_cons_zero, List.set_cons_succ]
      refine take_on (i := 7) (v := ?_) rfl rfl (by kernel_rfl) (by kernel_rfl) (by kernel_rfl) (fun _ _ _ h => h) rfl ?_ hHeld ?_
      rotate_left
      · (intro wq hSq; have q1 := (hSq.cell (p := ⟨b1, o1 + k * 2, none⟩) g1).trans d1; have q2 := (hSq.cell (p := ⟨b1, o1 + k * 2 + 1, none⟩) g1).trans d2; have q3 := (hSq.cell (p := ⟨b2, o2 + k * 2, none⟩) g2).trans e1; have q4 := (hSq.cell (p := ⟨b2, o2 + k * 2 + 1, none⟩) g2).trans e2; go_simp <;> first | with_reducible rfl | rfl)
      simp only [Act.put, List.setIfInBounds_toArray, List.set_cons_zero, List.set_cons_succ]
      refine take_on (i := 8) (v := ?_) rfl rfl (by kernel_rfl) (by kernel_rfl) (by kernel_rfl) (fun _ _ _ h => h) rfl ?_ hHeld ?_
      rotate_left
      · (intro wq hSq; have q1 := (hSq.cell (p := ⟨b1, o1 + k * 2, none⟩) g1).trans d1; have q2 := (hSq.cell (p := ⟨b1, o1 + k * 2 + 1, none⟩) g1).trans d2; have q3 := (hSq.cell (p := ⟨b2, o2 + k * 2, none⟩) g2).trans e1; have q4 := (hSq.cell (p := ⟨b2, o2 + k * 2 + 1, none⟩) g2).trans e2; go_simp <;> first | with_reducible rfl | rfl)
      simp only [Act.put, List.setIfInBounds_toArray, List.set_cons_zero, List.set_cons_succ]
      refine take_on (i := 9) (v := ?_) rfl rfl (by kernel_rfl) (by kernel_rfl) (by kernel_rfl) (fun _ _ _ h => h) rfl ?_ hHeld ?_
      rotate_left
      · (intro wq hSq; have q1 := (hSq.cell (p := ⟨b1, o1 + k * 2, none⟩) g1).trans d1; have q2 := (hSq.cell (p := ⟨b1, o1 + k * 2 + 1, none⟩) g1).trans d2; have q3 := (hSq.cell (p := ⟨b2, o2 + k * 2, none⟩) g2).trans e1; have q4 := (hSq.cell (p := ⟨b2, o2 + k * 2 + 1, none⟩) g2).trans e2; go_simp <;> first | with_reducible rfl | rfl)
      simp only [Act.put, List.setIfInBounds_toArray, List.set_cons_zero, List.set_cons_succ]
      refine take_on (i := 10) (v := ?_) rfl rfl (by kernel_rfl) (by kernel_rfl) (by kernel_rfl) (fun _ _ _ h => h) rfl ?_ hHeld ?_
      rotate_left
      · (intro wq hSq; have q1 := (hSq.cell (p := ⟨b1, o1 + k * 2, none⟩) g1).trans d1; have q2 := (hSq.cell (p := ⟨b1, o1 + k * 2 + 1, none⟩) g1).trans d2; have q3 := (hSq.cell (p := ⟨b2, o2 + k * 2, none⟩) g2).trans e1; have q4 := (hSq.cell (p := ⟨b2, o2 + k * 2 + 1, none⟩) g2).trans e2; go_simp <;> first | with_reducible rfl | rfl)
      simp only [Act.put, List.setIfInBounds_toArray, List.set_cons_zero, List.set_cons_succ]
      refine take_on (i := 11) (v := ?_) rfl rfl (by kernel_rfl) (by kernel_rfl) (by kernel_rfl) (fun _ _ _ h => h) rfl ?_ hHeld ?_
      rotate_left
      · (intro wq hSq; have q1 := (hSq.cell (p := ⟨b1, o1 + k * 2, none⟩) g1).trans d1; have q2 := (hSq.cell (p := ⟨b1, o1 + k * 2 + 1, none⟩) g1).trans d2; have q3 := (hSq.cell (p := ⟨b2, o2 + k * 2, none⟩) g2).trans e1; have q4 := (hSq.cell (p := ⟨b2, o2 + k * 2 + 1, none⟩) g2).trans e2; go_simp <;> first | with_reducible rfl | rfl)
      simp only [Act.put, List.setIfInBounds_toArray, List.set_cons_zero, List.set_cons_succ]
      refine take_on (i := 12) (v := ?_) rfl rfl (by kernel_rfl) (by kernel_rfl) (by kernel_rfl) (fun _ _ _ h => h) rfl ?_ hHeld ?_
      rotate_left
      · (intro wq hSq; have q1 := (hSq.cell (p := ⟨b1, o1 + k * 2, none⟩) g1).trans d1; have q2 := (hSq.cell (p := ⟨b1, o1 + k * 2 + 1, none⟩) g1).trans d2; have q3 := (hSq.cell (p := ⟨b2, o2 + k * 2, none⟩) g2).trans e1; have q4 := (hSq.cell (p := ⟨b2, o2 + k * 2 + 1, none⟩) g2).trans e2; go_simp <;> first | with_reducible rfl | rfl)
      simp only [Act.put, List.setIfInBounds_toArray, List.set_cons_zero, List.set_cons_succ]
      refine take_on (i := 13) (v := ?_) rfl rfl (by kernel_rfl) (by kernel_rfl) (by kernel_rfl) (fun _ _ _ h => h) rfl ?_ hHeld ?_
      rotate_left
      · (intro wq hSq; have q1 := (hSq.cell (p := ⟨b1, o1 + k * 2, none⟩) g1).trans d1; have q2 := (hSq.cell (p := ⟨b1, o1 + k * 2 + 1, none⟩) g1).trans d2; have q3 := (hSq.cell (p := ⟨b2, o2 + k * 2, none⟩) g2).trans e1; have q4 := (hSq.cell (p := ⟨b2, o2 + k * 2 + 1, none⟩) g2).trans e2; go_simp <;> first | with_reducible rfl | rfl)
      simp only [Act.put, List.setIfInBounds_toArray, List.set_cons_zero, List.set_cons_succ]
      refine take_on (i := 14) (v := ?_) rfl rfl (by kernel_rfl) (by kernel_rfl) (by kernel_rfl) (fun _ _ _ h => h) rfl ?_ hHeld ?_
      rotate_left
      · (intro wq hSq; have q1 := (hSq.cell (p := ⟨b1, o1 + k * 2, none⟩) g1).trans d1; have q2 := (hSq.cell (p := ⟨b1, o1 + k * 2 + 1, none⟩) g1).trans d2; have q3 := (hSq.cell (p := ⟨b2, o2 + k * 2, none⟩) g2).trans e1; have q4 := (hSq.cell (p := ⟨b2, o2 + k * 2 + 1, none⟩) g2).trans e2; go_simp <;> first | with_reducible rfl | rfl)
      simp only [Act.put, List.setIfInBounds_toArray, List.set_cons_zero, List.set_cons_succ]
      refine take_on (i := 15) (v := ?_) rfl rfl (by kernel_rfl) (by kernel_rfl) (by kernel_rfl) (fun _ _ _ h => h) rfl ?_ hHeld ?_
      rotate_left
      · (intro wq hSq; have q1 := (hSq.cell (p := ⟨b1, o1 + k * 2, none⟩) g1).trans d1; have q2 := (hSq.cell (p := ⟨b1, o1 + k * 2 + 1, none⟩) g1).trans d2; have q3 := (hSq.cell (p := ⟨b2, o2 + k * 2, none⟩) g2).trans e1; have q4 := (hSq.cell (p := ⟨b2, o2 + k * 2 + 1, none⟩) g2).trans e2; go_simp <;> first | with_reducible rfl | rfl)
      simp only [Act.put, List.setIfInBounds_toArray, List.set_cons_zero, List.set_cons_succ]
      refine take_on (i := 16) (v := ?_) rfl rfl (by kernel_rfl) (by kernel_rfl) (by kernel_rfl) (fun _ _ _ h => h) rfl ?_ hHeld ?_
      rotate_left
      · (intro wq hSq; have q1 := (hSq.cell (p := ⟨b1, o1 + k * 2, none⟩) g1).trans d1; have q2 := (hSq.cell (p := ⟨b1, o1 + k * 2 + 1, none⟩) g1).trans d2; have q3 := (hSq.cell (p := ⟨b2, o2 + k * 2, none⟩) g2).trans e1; have q4 := (hSq.cell (p := ⟨b2, o2 + k * 2 + 1, none⟩) g2).trans e2; go_simp <;> first | with_reducible rfl | rfl)
      simp only [Act.put, List.setIfInBounds_toArray, List.set_cons_zero, List.set_cons_succ]
      refine take_on (i := 17) (v := ?_) rfl rfl (by kernel_rfl) (by kernel_rfl) (by kernel_rfl) (fun _ _ _ h => h) rfl ?_ hHeld ?_
      rotate_left
      · (intro wq hSq; have q1 := (hSq.cell (p := ⟨b1, o1 + k * 2, none⟩) g1).trans d1; have q2 := (hSq.cell (p := ⟨b1, o1 + k * 2 + 1, none⟩) g1).trans d2; have q3 := (hSq.cell (p := ⟨b2, o2 + k * 2, none⟩) g2).trans e1; have q4 := (hSq.cell (p := ⟨b2, o2 + k * 2 + 1, none⟩) g2).trans e2; go_simp <;> first | with_reducible rfl | rfl)
      simp only [Act.put, List.setIfInBounds_toArray, List.set_cons_zero, List.set_cons_succ]
      refine take_on (i := 18) (v := ?_) rfl rfl (by kernel_rfl) (by kernel_rfl) (by kernel_rfl) (fun _ _ _ h => h) rfl ?_ hHeld ?_
      rotate_left
      · (intro wq hSq; have q1 := (hSq.cell (p := ⟨b1, o1 + k * 2, none⟩) g1).trans d1; have q2 := (hSq.cell (p := ⟨b1, o1 + k * 2 + 1, none⟩) g1).trans d2; have q3 := (hSq.cell (p := ⟨b2, o2 + k * 2, none⟩) g2).trans e1; have q4 := (hSq.cell (p := ⟨b2, o2 + k * 2 + 1, none⟩) g2).trans e2; go_simp <;> first | with_reducible rfl | rfl)
      simp only [Act.put, List.setIfInBounds_toArray, List.set_cons_zero, List.set_cons_succ]
      refine take_on (i := 19) (v := ?_) rfl rfl (by kernel_rfl) (by kernel_rfl) (by kernel_rfl) (fun _ _ _ h => h) rfl ?_ hHeld ?_
      rotate_left
      · (intro wq hSq; have q1 := (hSq.cell (p := ⟨b1, o1 + k * 2, none⟩) g1).trans d1; have q2 := (hSq.cell (p := ⟨b1, o1 + k * 2 + 1, none⟩) g1).trans d2; have q3 := (hSq.cell (p := ⟨b2, o2 + k * 2, none⟩) g2).trans e1; have q4 := (hSq.cell (p := ⟨b2, o2 + k * 2 + 1, none⟩) g2).trans e2; go_simp <;> first | with_reducible rfl | rfl)
      simp only [Act.put, List.setIfInBounds_toArray, List.set_cons_zero, List.set_cons_succ]
      refine take_on (i := 20) (v := ?_) rfl rfl (by kernel_rfl) (by kernel_rfl) (by kernel_rfl) (fun _ _ _ h => h) rfl ?_ hHeld ?_
      rotate_left
      · (intro wq hSq; have q1 := (hSq.cell (p := ⟨b1, o1 + k * 2, none⟩) g1).trans d1; have q2 := (hSq.cell (p := ⟨b1, o1 + k * 2 + 1, none⟩) g1).trans d2; have q3 := (hSq.cell (p := ⟨b2, o2 + k * 2, none⟩) g2).trans e1; have q4 := (hSq.cell (p := ⟨b2, o2 + k * 2 + 1, none⟩) g2).trans e2; go_simp <;> first | with_reducible rfl | rfl)
      simp only [Act.put, List.setIfInBounds_toArray, List.set_cons_zero, List.set_cons_succ]
      refine take_on (i := 21) (v := ?_) rfl rfl (by kernel_rfl) (by kernel_rfl) (by kernel_rfl) (fun _ _ _ h => h) rfl ?_ hHeld ?_
      rotate_left
      · (intro wq hSq; have q1 := (hSq.cell (p := ⟨b1, o1 + k * 2, none⟩) g1).trans d1; have q2 := (hSq.cell (p := ⟨b1, o1 + k * 2 + 1, none⟩) g1).trans d2; have q3 := (hSq.cell (p := ⟨b2, o2 + k * 2, none⟩) g2).trans e1; have q4 := (hSq.cell (p := ⟨b2, o2 + k * 2 + 1, none⟩) g2).trans e2; go_simp <;> first | with_reducible rfl | rfl)
      simp only [Act.put, List.setIfInBounds_toArray, List.set_cons_zero, List.set_cons_succ]
      refine take_one (i := 22) rfl (by kernel_rfl) (fun K hK => ?_)
      go_simp
      refine (heq _ hHeld).mono ?_; rintro e y1 ⟨rfl, hb1⟩
      try go_wp2_with fail
      refine hK.out _ _ ?_ (fun hHeld => ?_)
      · exact hHeld.trans (hb1.mono hHeld.size)
      clear hK K
      try simp only [Act.put, List.setIfInBounds_toArray, List.set_cons_zero, List.set_cons_succ]
      refine take_on (i := 23) (v := ?_) rfl rfl (by kernel_rfl) (by kernel_rfl) (by kernel_rfl) (fun _ _ _ h => h) rfl ?_ hHeld ?_
      rotate_left
      · (intro wq hSq; have q1 := (hSq.cell (p := ⟨b1, o1 + k * 2, none⟩) g1).trans d1; have q2 := (hSq.cell (p := ⟨b1, o1 + k * 2 + 1, none⟩) g1).trans d2; have q3 := (hSq.cell (p := ⟨b2, o2 + k * 2, none⟩) g2).trans e1; have q4 := (hSq.cell (p := ⟨b2, o2 + k * 2 + 1, none⟩) g2).trans e2; go_simp <;> first | with_reducible rfl | rfl)
      simp only [Act.put, List.setIfInBounds_toArray, List.set_cons_zero, List.set_cons_succ]
      refine take_on (i := 24) (v := ?_) rfl rfl (by kernel_rfl) (by kernel_rfl) (by kernel_rfl) (fun _ _ _ h => h) rfl ?_ hHeld ?_
      rotate_left
      · (intro wq hSq; have q1 := (hSq.cell (p := ⟨b1, o1 + k * 2, none⟩) g1).trans d1; have q2 := (hSq.cell (p := ⟨b1, o1 + k * 2 + 1, none⟩) g1).trans d2; have q3 := (hSq.cell (p := ⟨b2, o2 + k * 2, none⟩) g2).trans e1; have q4 := (hSq.cell (p := ⟨b2, o2 + k * 2 + 1, none⟩) g2).trans e2; go_simp <;> first | with_reducible rfl | rfl)
      simp only [Act.put, List.setIfInBounds_toArray, List.set_cons_zero, List.set_cons_succ]
      refine wpAnyH_done (by kernel_rfl) ?_ _
      go_wp2_with fail
      go_roundw
      case rel => exact ⟨k + 1, by omega, by go_num, hbw.trans (hHeld.mono hs)⟩
      case measure => simp [intOf]; omega
    · clear ha hb
      go_wp2_with fail
      go_ret
      exact ⟨rfl, hbw⟩

/-- What a call answers. -/
structure Ans where
  E : Int
  X : Int
  Y : Int
  Z : Int
  P : List Nat
  n : Nat
  T : Nat → Nat × List Nat
/-- A value that tells it, in blocks from base on. -/
structure TV (w : World) (base : Nat) (v : Value) (A : Ans) : Prop where
  ex : ∃ pa pc sa sc, v = .agg #[.int .i64 A.E, .int .i64 A.X, .int .i64 A.Y, .int .i64 A.Z, .slice pa A.P.length pc, .slice sa A.n sc] ∧ RowB w pa A.P ∧ lowA base pa ∧ RowT w base sa A.n A.T ∧ A.n ≤ sc
  len : A.P.length ≤ 211106232532800
  few : A.n ≤ 16
  lens : ∀ i, i < A.n → (A.T i).2.length ≤ 211106232532800
theorem TV.keep {w w' : World} {base : Nat} {v : Value} {A : Ans} (h : TV w base v A) (hs : w.heap.size ≤ w'.heap.size) (hk : ∀ b, base ≤ b → b < w.heap.size → w'.heap[b]? = w.heap[b]?) : TV w' base v A := by
  obtain ⟨pa, pc, sa, sc, h1, h2, h3, h4, h5⟩ := h.ex
  exact ⟨⟨pa, pc, sa, sc, h1, h2.keep hs fun ad e hl => hk _ (h3 ad e) hl, h3, h4.keep hs hk, h5⟩, h.len, h.few, h.lens⟩
theorem TV.below {w w' : World} {base : Nat} {v : Value} {A : Ans} (h : TV w base v A) (hb : Below w.heap.size w w') : TV w' base v A := h.keep hb.size fun b _ hl => hb.block b hl
theorem TV.chg {F : Nat → Prop} {w w' : World} {base : Nat} {v : Value} {A : Ans} (h : TV w base v A) (hc : Chg F w w') (hF : ∀ b, F b → b < base) : TV w' base v A := h.keep hc.size fun b hb hl => hc.block b hl fun hf => by have := hF b hf; omega

set_option maxRecDepth 100000 in
set_option maxHeartbeats 800000 in
theorem alike_same (v1 v2 : Value) (B1 B2 : Nat) (A : Ans) (w : World) (h1 : TV w B1 v1 A) (h2 : TV w B2 v2 A) :
    Calls Try.prog 25 #[v1, v2] w fun e w' => e = .returned (.bool true) ∧ Below w.heap.size w w' := by
  obtain ⟨pa, pc, sa, sc, rfl, p1, _, s1, _⟩ := h1.ex
  obtain ⟨pb, qc, sb, tc, rfl, p2, _, s2, _⟩ := h2.ex
  have hl := h1.len
  have hn := h1.few
  have hls := h1.lens
  obtain ⟨E, X, Y, Z, P, n, T⟩ := A
  simp only at p1 s1 p2 s2 hl hn hls
  clear h1 h2
  show Calls Try.prog 25 #[.agg #[.int .i64 E, .int .i64 X, .int .i64 Y, .int .i64 Z, .slice pa P.length pc, .slice sa n sc], .agg #[.int .i64 E, .int .i64 X, .int .i64 Y, .int .i64 Z, .slice pb P.length qc, .slice sb n tc]] w _
  obtain ⟨W, hW⟩ : ∃ W, W = (w.alloc (.cells #[.int .i64 E, .int .i64 X, .int .i64 Y, .int .i64 Z, .slice pa P.length pc, .slice sa n sc] 63)).alloc (.cells #[.int .i64 E, .int .i64 X, .int .i64 Y, .int .i64 Z, .slice pb P.length qc, .slice sb n tc] 63) := ⟨_, rfl⟩
  have hb : Below w.heap.size w W := by rw [hW]; exact ((Below.refl _ _).alloc (Nat.le_refl _) _).alloc (by simp) _
  have heq := equal_same pa pb P.length pc qc P W (p1.below hb) (p2.below hb) rfl hl
  have hsp := fun W1 (h : Below W.heap.size W W1) => spansAlike_same sa sb n sc tc T B1 B2 W1 ((s1.below hb).below h) ((s2.below hb).below h) (by omega) hls
  rw [hW] at heq
  obtain ⟨L, hL⟩ : ∃ L, L = P.length := ⟨_, rfl⟩
  rw [← hL] at heq hW ⊢
  have c0 : W.heap[w.heap.size]? = some (.cells #[.int .i64 E, .int .i64 X, .int .i64 Y, .int .i64 Z, .slice pa L pc, .slice sa n sc] 63 (0, 0)) := by
    rw [hW]
    exact (Below.heap_alloc _ _ _ (by simp)).trans (heap_alloc_new w _)
  have c1 : W.heap[w.heap.size + 1]? = some (.cells #[.int .i64 E, .int .i64 X, .int .i64 Y, .int .i64 Z, .slice pb L qc, .slice sb n tc] 63 (0, 0)) := by
    rw [hW]
    have := heap_alloc_new (w.alloc (.cells #[.int .i64 E, .int .i64 X, .int .i64 Y, .int .i64 Z, .slice pa L pc, .slice sa n sc] 63)) (.cells #[.int .i64 E, .int .i64 X, .int .i64 Y, .int .i64 Z, .slice pb L qc, .slice sb n tc] 63)
    simpa using this
  have hlt : w.heap.size + 1 < W.heap.size := (Array.getElem?_eq_some_iff.1 c1).1
  replace hW := hide_it hW
  clear hL p1 p2 s1 s2 hl hls
  go_enter Try.func25, Try.ntmps25
  go_wp2_with fail
  refine heq.mono ?_
  rintro e w1 ⟨rfl, hb1⟩
  rw [← hW.out] at hb1
  have d0 := (hb1.block w.heap.size (by omega)).trans c0
  have d1 := (hb1.block (w.heap.size + 1) hlt).trans c1
  have x0 := cell_of_row _ _ 5 _ _ _ d0
  have x1 := cell_of_row _ _ 5 _ _ _ d1
  have hs1 := hsp w1 hb1
  clear heq hsp c0 c1
  go_wp2_with fail
  refine hs1.mono ?_
  rintro e w2 ⟨rfl, hb2⟩
  clear hs1
  go_wp2_with fail
  go_ret
  exact ⟨rfl, hb.trans ((hb1.trans (hb2.mono hb1.size)).mono hb.size)⟩

end Go.Proofs.Ytdodnegdpdhbiaa
