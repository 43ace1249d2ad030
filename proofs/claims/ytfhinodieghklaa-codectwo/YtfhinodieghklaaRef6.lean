/- What one call answers of the document's reader. -/
import Derived.Test.YtfhinodieghklaaRef5
import Derived.Test.YtfhinodieghklaaReg2
import Derived.Deep.DeepCutAuto
namespace Go.Proofs.Ytfhinodieghklaa
open Go.RowKit

/-- What a call answers of the document's reader: a number and bytes, and the reader behind it. -/
def Told (a : Option Addr) (B : List Nat) (cap : Nat) (w : World) (r : (Nat × List Nat) × (List Nat × Nat)) (e : Ending) (w' : World) : Prop :=
  ∃ at_ a' c', e = .returned (.tuple #[.int .u64 (r.1.1 : Int), .slice a' r.1.2.length c', refV a B.length cap at_ r.2.2]) ∧ RowB w' a' r.1.2 ∧ (a' = none → r.1.2.length = 0 ∧ c' = 0) ∧ RefIs w' a B cap at_ r.2 ∧ Below w.heap.size w w'

/-- The world in which told's parameters and result lie. -/
abbrev toldW (w : World) (a : Option Addr) (n cap at_ f : Nat) (k low high most : Int) : World := ((w.alloc (.cells #[.slice a n cap, .int .i64 (at_ : Int), .int .i64 (f : Int)] 42)).alloc (.cells #[.int .i64 k, .int .i64 low, .int .i64 high, .int .i64 most] 48)).alloc (.cells #[.slice none 0 0, .int .i64 0, .int .i64 0] 42)
theorem told_below (w : World) (a : Option Addr) (n cap at_ f : Nat) (k low high most : Int) : Below w.heap.size w (toldW w a n cap at_ f k low high most) := (((Below.refl _ _).alloc (Nat.le_refl _) _).alloc (by simp) _).alloc (by simp; omega) _

/-- The bytes lie where they lay at first. -/
theorem RefIs.again {w wc w' : World} {a : Option Addr} {B : List Nat} {cap at_ at1 : Nat} {s t : List Nat × Nat} (h : RefIs w a B cap at_ s) (hI : RefIs wc a B cap at1 t) (hb : Below w.heap.size w w') : RefIs w' a B cap at1 t :=
  ⟨h.row.below hb, hI.all, hI.size, hI.fits, hI.capm, hI.none, hI.le, hI.left, hI.fault⟩

/-- What stands through a statement: nothing older was written; the reader's fields, the call's kind. -/
def TS (W0 : World) (p : Nat) (u0 u1 u2 u3 : Value) (w' : World) : Prop := Below W0.heap.size W0 w' ∧ w'.cell? ⟨p, 0, none⟩ = some u0 ∧ w'.cell? ⟨p, 1, none⟩ = some u1 ∧ w'.cell? ⟨p, 2, none⟩ = some u2 ∧ w'.cell? ⟨p + 1, 0, none⟩ = some u3
theorem TS.next {W0 : World} {p : Nat} {u0 u1 u2 u3 : Value} {w1 w2 : World} (h : TS W0 p u0 u1 u2 u3 w1) (hp : p + 1 < W0.heap.size) (hb : Below w1.heap.size w1 w2) : TS W0 p u0 u1 u2 u3 w2 := by
  obtain ⟨h1, h2, h3, h4, h5⟩ := h
  have hl : p + 1 < w1.heap.size := Nat.lt_of_lt_of_le hp h1.size
  exact ⟨h1.trans (hb.mono h1.size), (hb.cell (p := ⟨p, 0, none⟩) (by show p < _; omega)).trans h2, (hb.cell (p := ⟨p, 1, none⟩) (by show p < _; omega)).trans h3, (hb.cell (p := ⟨p, 2, none⟩) (by show p < _; omega)).trans h4, (hb.cell (p := ⟨p + 1, 0, none⟩) hl).trans h5⟩
theorem TS.set {W0 : World} {p g : Nat} {u0 u1 u2 u3 : Value} {w1 : World} (h : TS W0 p u0 u1 u2 u3 w1) (hp : p + 1 < W0.heap.size) (hg : W0.heap.size ≤ g) (i : Nat) (v : Value) : TS W0 p u0 u1 u2 u3 (w1.setCell ⟨g, i, none⟩ v) := by
  obtain ⟨h1, h2, h3, h4, h5⟩ := h
  have hne : p ≠ g := by omega
  have hne1 : p + 1 ≠ g := by omega
  exact ⟨h1.setCell hg v, (World.cell?_of_block (a := ⟨p, 0, none⟩) (Below.heap_setCell w1 ⟨g, i, none⟩ v p hne)).trans h2, (World.cell?_of_block (a := ⟨p, 1, none⟩) (Below.heap_setCell w1 ⟨g, i, none⟩ v p hne)).trans h3, (World.cell?_of_block (a := ⟨p, 2, none⟩) (Below.heap_setCell w1 ⟨g, i, none⟩ v p hne)).trans h4, (World.cell?_of_block (a := ⟨p + 1, 0, none⟩) (Below.heap_setCell w1 ⟨g, i, none⟩ v (p + 1) hne1)).trans h5⟩
theorem told_cells (w : World) (a : Option Addr) (n cap at_ f : Nat) (k low high most : Int) : TS (toldW w a n cap at_ f k low high most) w.heap.size (.slice a n cap) (.int .i64 (at_ : Int)) (.int .i64 (f : Int)) (.int .i64 k) (toldW w a n cap at_ f k low high most).drew := by
  have h1 : (toldW w a n cap at_ f k low high most).heap[w.heap.size]? = some (.cells #[.slice a n cap, .int .i64 (at_ : Int), .int .i64 (f : Int)] 42 (0, 0)) := by
    unfold toldW
    rw [Below.heap_alloc _ _ _ (by simp; omega), Below.heap_alloc _ _ _ (by simp)]; exact heap_alloc_new w _
  have h2 : (toldW w a n cap at_ f k low high most).heap[w.heap.size + 1]? = some (.cells #[.int .i64 k, .int .i64 low, .int .i64 high, .int .i64 most] 48 (0, 0)) := by
    unfold toldW
    rw [Below.heap_alloc _ _ _ (by simp)]
    have e := heap_alloc_new (w.alloc (.cells #[.slice a n cap, .int .i64 (at_ : Int), .int .i64 (f : Int)] 42)) (.cells #[.int .i64 k, .int .i64 low, .int .i64 high, .int .i64 most] 48)
    simp only [World.size_alloc] at e
    exact e
  obtain ⟨c0, c1, c2⟩ := three_cells h1
  exact ⟨(Below.refl _ _).drew, c0, c1, c2, cell_of_row _ _ _ _ _ _ h2⟩
theorem told_size (w : World) (a : Option Addr) (n cap at_ f : Nat) (k low high most : Int) : (toldW w a n cap at_ f k low high most).heap.size = w.heap.size + 1 + 1 + 1 := by simp

set_option maxRecDepth 100000 in
set_option maxHeartbeats 1000000 in
theorem told0 (a : Option Addr) (B : List Nat) (cap at_ : Nat) (low high most : Int) (s : List Nat × Nat) (w : World) (h : RefIs w a B cap at_ s) :
    Calls Try.prog 24 #[refV a B.length cap at_ s.2, .agg #[.int .i64 0, .int .i64 low, .int .i64 high, .int .i64 most]] w fun e w' => Told a B cap w (((rdOf 0 (takeFixed 1) s).1, []), (rdOf 0 (takeFixed 1) s).2) e w' := by
  have hb0 := told_below w a B.length cap at_ s.2 0 low high most
  have hTS := told_cells w a B.length cap at_ s.2 0 low high most
  have hs0 := told_size w a B.length cap at_ s.2 0 low high most
  have hcall : ∀ W, RefIs W a B cap at_ s → Calls Try.prog 44 #[.agg #[.slice a B.length cap, .int .i64 (at_ : Int), .int .i64 (s.2 : Int)], .int .i64 (IntKind.i64.wrap 1)] W (fun e w' => ∃ at1 : Nat, e = .returned (.tuple #[.int .u64 ((rdOf 0 (takeFixed 1) s).1 : Int), .agg #[.slice a B.length cap, .int .i64 (at1 : Int), .int .i64 ((rdOf 0 (takeFixed 1) s).2.2 : Int)]]) ∧ RefIs w' a B cap at1 (rdOf 0 (takeFixed 1) s).2 ∧ Below W.heap.size W w') := fun W hW => rtake_any a B cap at_ 1 s W hW (by omega)
  generalize rdOf 0 (takeFixed 1) s = x at *
  have hR0 : (toldW w a B.length cap at_ s.2 0 low high most).heap[w.heap.size + 1 + 1]? = some (.cells #[.slice none 0 0, .int .i64 0, .int .i64 0] 42 (0, 0)) := by
    have e := heap_alloc_new ((w.alloc (.cells #[.slice a B.length cap, .int .i64 (at_ : Int), .int .i64 (s.2 : Int)] 42)).alloc (.cells #[.int .i64 0, .int .i64 low, .int .i64 high, .int .i64 most] 48)) (.cells #[.slice none 0 0, .int .i64 0, .int .i64 0] 42)
    simp only [World.size_alloc] at e
    exact e
  unfold refV
  go_enter Try.func24, Try.ntmps24
  go_wp2_with fail
  obtain ⟨W0, hW0⟩ : ∃ W0, W0 = toldW w a B.length cap at_ s.2 0 low high most := ⟨_, rfl⟩
  rw [← hW0] at hb0 hTS hs0 hR0
  unfold toldW at hW0
  rw [← hW0]
  clear hW0
  go_cut [7, 8] (fun n p wc => ∃ g at1 : Nat, n = .int .u64 (x.1 : Int) ∧ p = .pointer (some ⟨g, 0, none⟩) ∧ wc.heap[g]? = some (.cells #[.slice a B.length cap, .int .i64 (at1 : Int), .int .i64 (x.2.2 : Int)] 42 (0, 0)) ∧ w.heap.size + 3 ≤ g ∧ RefIs wc a B cap at1 x.2 ∧ Below W0.heap.size W0 wc)
  case first =>
    have hZ := heap_alloc_new W0.drew (.cells #[.slice none 0 0, .int .i64 0, .int .i64 0] 42)
    rw [show W0.drew.heap.size = w.heap.size + 1 + 1 + 1 from hs0] at hZ
    refine wp_region_held_drew (S := TS W0 w.heap.size (.slice a B.length cap) (.int .i64 (at_ : Int)) (.int .i64 (s.2 : Int)) (.int .i64 0)) (by kernel_rfl) ?_ (fun hHeld => ?_)
    · exact hTS
    refine take_on (i := 0) (v := ?_) rfl rfl (by kernel_rfl) (by kernel_rfl) (by kernel_rfl) (fun _ _ _ h => h) rfl ?_ hHeld ?_
    rotate_left
    · (intro wq hSq; obtain ⟨_, hq0, hq1, hq2, hq3⟩ := hSq; go_simp <;> first | with_reducible rfl | rfl)
    simp only [Act.put, List.setIfInBounds_toArray, List.set_cons_zero, List.set_cons_succ]
    refine take_on (i := 1) (v := ?_) rfl rfl (by kernel_rfl) (by kernel_rfl) (by kernel_rfl) (fun _ _ _ h => h) rfl ?_ hHeld ?_
    rotate_left
    · (intro wq hSq; obtain ⟨_, hq0, hq1, hq2, hq3⟩ := hSq; go_simp <;> first | with_reducible rfl | rfl)
    simp only [Act.put, List.setIfInBounds_toArray, List.set_cons_zero, List.set_cons_succ]
    refine take_on (i := 2) (v := ?_) rfl rfl (by kernel_rfl) (by kernel_rfl) (by kernel_rfl) (fun _ _ _ h => h) rfl ?_ hHeld ?_
    rotate_left
    · (intro wq hSq; obtain ⟨_, hq0, hq1, hq2, hq3⟩ := hSq; go_simp <;> first | with_reducible rfl | rfl)
    simp only [Act.put, List.setIfInBounds_toArray, List.set_cons_zero, List.set_cons_succ]
    refine take_on (i := 3) (v := ?_) rfl rfl (by kernel_rfl) (by kernel_rfl) (by kernel_rfl) (fun _ _ _ h => h) rfl ?_ hHeld ?_
    rotate_left
    · (intro wq hSq; obtain ⟨_, hq0, hq1, hq2, hq3⟩ := hSq; go_simp <;> first | with_reducible rfl | rfl)
    simp only [Act.put, List.setIfInBounds_toArray, List.set_cons_zero, List.set_cons_succ]
    refine take_two (i := 4) (j := 8) rfl rfl (by kernel_rfl) (fun K hK => ?_) (fun K hK => ?_)
    · go_simp
      refine (hcall _ (h.below (hb0.trans (hHeld.1.mono hb0.size)))).mono ?_; rintro e w4 ⟨at1, rfl, hI, hb4⟩; have hH4 : TS W0 w.heap.size (.slice a B.length cap) (.int .i64 (at_ : Int)) (.int .i64 (s.2 : Int)) (.int .i64 0) w4 := hHeld.next (by omega) hb4
      try go_wp2_with fail
      refine hK.out _ _ ?_ (fun hHeld => ?_)
      · exact hH4
      clear hK K
      try simp only [Act.put, List.setIfInBounds_toArray, List.set_cons_zero, List.set_cons_succ]
      refine take_on (i := 5) (v := ?_) rfl rfl (by kernel_rfl) (by kernel_rfl) (by kernel_rfl) (fun _ _ _ h => h) rfl ?_ hHeld ?_
      rotate_left
      · (intro wq hSq; obtain ⟨_, hq0, hq1, hq2, hq3⟩ := hSq; go_simp <;> first | with_reducible rfl | rfl)
      simp only [Act.put, List.setIfInBounds_toArray, List.set_cons_zero, List.set_cons_succ]
      refine take_on (i := 6) (v := ?_) rfl rfl (by kernel_rfl) (by kernel_rfl) (by kernel_rfl) (fun _ _ _ h => h) rfl ?_ hHeld ?_
      rotate_left
      · (intro wq hSq; obtain ⟨_, hq0, hq1, hq2, hq3⟩ := hSq; go_simp <;> first | with_reducible rfl | rfl)
      simp only [Act.put, List.setIfInBounds_toArray, List.set_cons_zero, List.set_cons_succ]
      refine take_on (i := 7) (v := ?_) rfl rfl (by kernel_rfl) (by kernel_rfl) (by kernel_rfl) (fun _ _ _ h => h) rfl ?_ hHeld ?_
      rotate_left
      · (intro wq hSq; obtain ⟨_, hq0, hq1, hq2, hq3⟩ := hSq; go_simp <;> first | with_reducible rfl | rfl)
      simp only [Act.put, List.setIfInBounds_toArray, List.set_cons_zero, List.set_cons_succ]
      refine take_one (i := 8) rfl (by kernel_rfl) (fun K hK => ?_)
      go_simp
      refine hK.out _ _ ?_ (fun hHeld => ?_)
      · exact hHeld.next (by omega) ((Below.refl _ _).alloc (Nat.le_refl _) _)
      clear hK K
      try simp only [Act.put, List.setIfInBounds_toArray, List.set_cons_zero, List.set_cons_succ]
      refine take_on (i := 9) (v := ?_) rfl rfl (by kernel_rfl) (by kernel_rfl) (by kernel_rfl) (fun _ _ _ h => h) rfl ?_ hHeld ?_
      rotate_left
      · (intro wq hSq; obtain ⟨_, hq0, hq1, hq2, hq3⟩ := hSq; go_simp <;> first | with_reducible rfl | rfl)
      simp only [Act.put, List.setIfInBounds_toArray, List.set_cons_zero, List.set_cons_succ]
      refine take_one (i := 10) rfl (by kernel_rfl) (fun K hK => ?_)
      go_simp
      refine hK.out _ _ ?_ (fun hHeld => ?_)
      · exact hH4.next (by omega) ((Below.refl _ _).alloc (Nat.le_refl _) _)
      clear hK K
      try simp only [Act.put, List.setIfInBounds_toArray, List.set_cons_zero, List.set_cons_succ]
      refine wpAnyH_done (by kernel_rfl) ?_ _
      try go_wp2_with fail
      go_meet
      case rel => exact ⟨w4.heap.size, at1, rfl, rfl, heap_alloc_new w4 _, (by have := hH4.1.size; omega), hI.below ((Below.refl _ _).alloc (Nat.le_refl _) _), hHeld.1⟩
    · go_simp
      refine hK.out _ _ ?_ (fun hHeld => ?_)
      · exact hHeld.next (by omega) ((Below.refl _ _).alloc (Nat.le_refl _) _)
      clear hK K
      try simp only [Act.put, List.setIfInBounds_toArray, List.set_cons_zero, List.set_cons_succ]
      refine take_one (i := 4) rfl (by kernel_rfl) (fun K hK => ?_)
      go_simp
      refine (hcall _ (h.below (hb0.trans (hHeld.1.mono hb0.size)))).mono ?_; rintro e w4 ⟨at1, rfl, hI, hb4⟩; have j1 : w4.heap[w.heap.size + 1 + 1 + 1]? = some (.cells #[.slice none 0 0, .int .i64 0, .int .i64 0] 42 (0, 0)) := (hb4.block _ (by simp [hs0])).trans hZ; obtain ⟨c0, c1, c2⟩ := three_cells j1; obtain ⟨z0, z1, z2⟩ := three_soft j1; have HJ := hide_it j1; clear j1
      try go_wp2_with fail
      refine hK.out _ _ ?_ (fun hHeld => ?_)
      · exact hHeld.next (by omega) hb4
      clear hK K
      try simp only [Act.put, List.setIfInBounds_toArray, List.set_cons_zero, List.set_cons_succ]
      refine take_on (i := 5) (v := ?_) rfl rfl (by kernel_rfl) (by kernel_rfl) (by kernel_rfl) (fun _ _ _ h => h) rfl ?_ hHeld ?_
      rotate_left
      · (intro wq hSq; obtain ⟨_, hq0, hq1, hq2, hq3⟩ := hSq; go_simp <;> first | with_reducible rfl | rfl)
      simp only [Act.put, List.setIfInBounds_toArray, List.set_cons_zero, List.set_cons_succ]
      refine take_on (i := 6) (v := ?_) rfl rfl (by kernel_rfl) (by kernel_rfl) (by kernel_rfl) (fun _ _ _ h => h) rfl ?_ hHeld ?_
      rotate_left
      · (intro wq hSq; obtain ⟨_, hq0, hq1, hq2, hq3⟩ := hSq; go_simp <;> first | with_reducible rfl | rfl)
      simp only [Act.put, List.setIfInBounds_toArray, List.set_cons_zero, List.set_cons_succ]
      refine take_on (i := 7) (v := ?_) rfl rfl (by kernel_rfl) (by kernel_rfl) (by kernel_rfl) (fun _ _ _ h => h) rfl ?_ hHeld ?_
      rotate_left
      · (intro wq hSq; obtain ⟨_, hq0, hq1, hq2, hq3⟩ := hSq; go_simp <;> first | with_reducible rfl | rfl)
      simp only [Act.put, List.setIfInBounds_toArray, List.set_cons_zero, List.set_cons_succ]
      refine take_on (i := 9) (v := ?_) rfl rfl (by kernel_rfl) (by kernel_rfl) (by kernel_rfl) (fun _ _ _ h => h) rfl ?_ hHeld ?_
      rotate_left
      · (intro wq hSq; obtain ⟨_, hq0, hq1, hq2, hq3⟩ := hSq; go_simp <;> first | with_reducible rfl | rfl)
      simp only [Act.put, List.setIfInBounds_toArray, List.set_cons_zero, List.set_cons_succ]
      refine take_one (i := 10) rfl (by kernel_rfl) (fun K hK => ?_)
      go_simp
      refine hK.out _ _ ?_ (fun hHeld => ?_)
      · exact ((hHeld.set (by omega) (by omega) _ _).set (by omega) (by omega) _ _).set (by omega) (by omega) _ _
      clear hK K
      try simp only [Act.put, List.setIfInBounds_toArray, List.set_cons_zero, List.set_cons_succ]
      refine wpAnyH_done (by kernel_rfl) ?_ _
      try go_wp2_with fail
      go_meet
      case rel => exact ⟨w.heap.size + 1 + 1 + 1, at1, rfl, rfl, set3 HJ.out _ _ _, by omega, h.again hI (hb0.trans (hHeld.1.mono hb0.size)), hHeld.1⟩
  case rest =>
    obtain ⟨g, at1, rfl, rfl, hg, hge, hI, hbc⟩ := hcut
    have hbw : Below w.heap.size w wc := hb0.trans (hbc.mono (by omega))
    have hRc : wc.heap[w.heap.size + 1 + 1]? = _ := (hbc.block (w.heap.size + 1 + 1) (by omega)).trans hR0
    obtain ⟨c0, c1, c2⟩ := three_cells hg
    obtain ⟨q0, q1, q2⟩ := three_cells hRc
    obtain ⟨z0, z1, z2⟩ := three_soft hRc
    have HRC := hide_it hRc
    clear hg hRc hR0 hbc hb0 hTS
    go_wp2_with fail
    go_region
    all_goals go_wp2_with fail
    have g5 := set3 HRC.out (.slice a B.length cap) (.int .i64 (at1 : Int)) (.int .i64 (x.2.2 : Int))
    obtain ⟨v0, v1, v2⟩ := three_cells g5
    refine bodyPost_ret (v := .tuple #[.int .u64 (x.1 : Int), .slice none 0 0, .agg #[.slice a B.length cap, .int .i64 (at1 : Int), .int .i64 (x.2.2 : Int)]]) (by simp [results, Try.results24, go_sem, v0, v1, v2]) rfl ?_
    have b5 := (below3 hbw (show w.heap.size ≤ w.heap.size + 1 + 1 by omega) (.slice a B.length cap) (.int .i64 (at1 : Int)) (.int .i64 (x.2.2 : Int))).drew
    exact ⟨at1, none, 0, rfl, .inl rfl, fun _ => ⟨rfl, rfl⟩, h.again hI b5, b5⟩

set_option maxRecDepth 100000 in
set_option maxHeartbeats 1000000 in
theorem told1 (a : Option Addr) (B : List Nat) (cap at_ : Nat) (low high most : Int) (s : List Nat × Nat) (w : World) (h : RefIs w a B cap at_ s) :
    Calls Try.prog 24 #[refV a B.length cap at_ s.2, .agg #[.int .i64 1, .int .i64 low, .int .i64 high, .int .i64 most]] w fun e w' => Told a B cap w (((rdOf 0 (takeFixed 2) s).1, []), (rdOf 0 (takeFixed 2) s).2) e w' := by
  have hb0 := told_below w a B.length cap at_ s.2 1 low high most
  have hTS := told_cells w a B.length cap at_ s.2 1 low high most
  have hs0 := told_size w a B.length cap at_ s.2 1 low high most
  have hcall : ∀ W, RefIs W a B cap at_ s → Calls Try.prog 44 #[.agg #[.slice a B.length cap, .int .i64 (at_ : Int), .int .i64 (s.2 : Int)], .int .i64 (IntKind.i64.wrap 2)] W (fun e w' => ∃ at1 : Nat, e = .returned (.tuple #[.int .u64 ((rdOf 0 (takeFixed 2) s).1 : Int), .agg #[.slice a B.length cap, .int .i64 (at1 : Int), .int .i64 ((rdOf 0 (takeFixed 2) s).2.2 : Int)]]) ∧ RefIs w' a B cap at1 (rdOf 0 (takeFixed 2) s).2 ∧ Below W.heap.size W w') := fun W hW => rtake_any a B cap at_ 2 s W hW (by omega)
  generalize rdOf 0 (takeFixed 2) s = x at *
  have hR0 : (toldW w a B.length cap at_ s.2 1 low high most).heap[w.heap.size + 1 + 1]? = some (.cells #[.slice none 0 0, .int .i64 0, .int .i64 0] 42 (0, 0)) := by
    have e := heap_alloc_new ((w.alloc (.cells #[.slice a B.length cap, .int .i64 (at_ : Int), .int .i64 (s.2 : Int)] 42)).alloc (.cells #[.int .i64 1, .int .i64 low, .int .i64 high, .int .i64 most] 48)) (.cells #[.slice none 0 0, .int .i64 0, .int .i64 0] 42)
    simp only [World.size_alloc] at e
    exact e
  unfold refV
  go_enter Try.func24, Try.ntmps24
  go_wp2_with fail
  obtain ⟨W0, hW0⟩ : ∃ W0, W0 = toldW w a B.length cap at_ s.2 1 low high most := ⟨_, rfl⟩
  rw [← hW0] at hb0 hTS hs0 hR0
  unfold toldW at hW0
  rw [← hW0]
  clear hW0
  go_cut [7, 8] (fun n p wc => ∃ g at1 : Nat, n = .int .u64 (x.1 : Int) ∧ p = .pointer (some ⟨g, 0, none⟩) ∧ wc.heap[g]? = some (.cells #[.slice a B.length cap, .int .i64 (at1 : Int), .int .i64 (x.2.2 : Int)] 42 (0, 0)) ∧ w.heap.size + 3 ≤ g ∧ RefIs wc a B cap at1 x.2 ∧ Below W0.heap.size W0 wc)
  case first =>
    have hZ := heap_alloc_new W0.drew (.cells #[.slice none 0 0, .int .i64 0, .int .i64 0] 42)
    rw [show W0.drew.heap.size = w.heap.size + 1 + 1 + 1 from hs0] at hZ
    refine wp_region_held_drew (S := TS W0 w.heap.size (.slice a B.length cap) (.int .i64 (at_ : Int)) (.int .i64 (s.2 : Int)) (.int .i64 1)) (by kernel_rfl) ?_ (fun hHeld => ?_)
    · exact hTS
    refine take_on (i := 0) (v := ?_) rfl rfl (by kernel_rfl) (by kernel_rfl) (by kernel_rfl) (fun _ _ _ h => h) rfl ?_ hHeld ?_
    rotate_left
    · (intro wq hSq; obtain ⟨_, hq0, hq1, hq2, hq3⟩ := hSq; go_simp <;> first | with_reducible rfl | rfl)
    simp only [Act.put, List.setIfInBounds_toArray, List.set_cons_zero, List.set_cons_succ]
    refine take_on (i := 1) (v := ?_) rfl rfl (by kernel_rfl) (by kernel_rfl) (by kernel_rfl) (fun _ _ _ h => h) rfl ?_ hHeld ?_
    rotate_left
    · (intro wq hSq; obtain ⟨_, hq0, hq1, hq2, hq3⟩ := hSq; go_simp <;> first | with_reducible rfl | rfl)
    simp only [Act.put, List.setIfInBounds_toArray, List.set_cons_zero, List.set_cons_succ]
    refine take_on (i := 2) (v := ?_) rfl rfl (by kernel_rfl) (by kernel_rfl) (by kernel_rfl) (fun _ _ _ h => h) rfl ?_ hHeld ?_
    rotate_left
    · (intro wq hSq; obtain ⟨_, hq0, hq1, hq2, hq3⟩ := hSq; go_simp <;> first | with_reducible rfl | rfl)
    simp only [Act.put, List.setIfInBounds_toArray, List.set_cons_zero, List.set_cons_succ]
    refine take_on (i := 3) (v := ?_) rfl rfl (by kernel_rfl) (by kernel_rfl) (by kernel_rfl) (fun _ _ _ h => h) rfl ?_ hHeld ?_
    rotate_left
    · (intro wq hSq; obtain ⟨_, hq0, hq1, hq2, hq3⟩ := hSq; go_simp <;> first | with_reducible rfl | rfl)
    simp only [Act.put, List.setIfInBounds_toArray, List.set_cons_zero, List.set_cons_succ]
    refine take_two (i := 4) (j := 8) rfl rfl (by kernel_rfl) (fun K hK => ?_) (fun K hK => ?_)
    · go_simp
      refine (hcall _ (h.below (hb0.trans (hHeld.1.mono hb0.size)))).mono ?_; rintro e w4 ⟨at1, rfl, hI, hb4⟩; have hH4 : TS W0 w.heap.size (.slice a B.length cap) (.int .i64 (at_ : Int)) (.int .i64 (s.2 : Int)) (.int .i64 1) w4 := hHeld.next (by omega) hb4
      try go_wp2_with fail
      refine hK.out _ _ ?_ (fun hHeld => ?_)
      · exact hH4
      clear hK K
      try simp only [Act.put, List.setIfInBounds_toArray, List.set_cons_zero, List.set_cons_succ]
      refine take_on (i := 5) (v := ?_) rfl rfl (by kernel_rfl) (by kernel_rfl) (by kernel_rfl) (fun _ _ _ h => h) rfl ?_ hHeld ?_
      rotate_left
      · (intro wq hSq; obtain ⟨_, hq0, hq1, hq2, hq3⟩ := hSq; go_simp <;> first | with_reducible rfl | rfl)
      simp only [Act.put, List.setIfInBounds_toArray, List.set_cons_zero, List.set_cons_succ]
      refine take_on (i := 6) (v := ?_) rfl rfl (by kernel_rfl) (by kernel_rfl) (by kernel_rfl) (fun _ _ _ h => h) rfl ?_ hHeld ?_
      rotate_left
      · (intro wq hSq; obtain ⟨_, hq0, hq1, hq2, hq3⟩ := hSq; go_simp <;> first | with_reducible rfl | rfl)
      simp only [Act.put, List.setIfInBounds_toArray, List.set_cons_zero, List.set_cons_succ]
      refine take_on (i := 7) (v := ?_) rfl rfl (by kernel_rfl) (by kernel_rfl) (by kernel_rfl) (fun _ _ _ h => h) rfl ?_ hHeld ?_
      rotate_left
      · (intro wq hSq; obtain ⟨_, hq0, hq1, hq2, hq3⟩ := hSq; go_simp <;> first | with_reducible rfl | rfl)
      simp only [Act.put, List.setIfInBounds_toArray, List.set_cons_zero, List.set_cons_succ]
      refine take_one (i := 8) rfl (by kernel_rfl) (fun K hK => ?_)
      go_simp
      refine hK.out _ _ ?_ (fun hHeld => ?_)
      · exact hHeld.next (by omega) ((Below.refl _ _).alloc (Nat.le_refl _) _)
      clear hK K
      try simp only [Act.put, List.setIfInBounds_toArray, List.set_cons_zero, List.set_cons_succ]
      refine take_on (i := 9) (v := ?_) rfl rfl (by kernel_rfl) (by kernel_rfl) (by kernel_rfl) (fun _ _ _ h => h) rfl ?_ hHeld ?_
      rotate_left
      · (intro wq hSq; obtain ⟨_, hq0, hq1, hq2, hq3⟩ := hSq; go_simp <;> first | with_reducible rfl | rfl)
      simp only [Act.put, List.setIfInBounds_toArray, List.set_cons_zero, List.set_cons_succ]
      refine take_one (i := 10) rfl (by kernel_rfl) (fun K hK => ?_)
      go_simp
      refine hK.out _ _ ?_ (fun hHeld => ?_)
      · exact hH4.next (by omega) ((Below.refl _ _).alloc (Nat.le_refl _) _)
      clear hK K
      try simp only [Act.put, List.setIfInBounds_toArray, List.set_cons_zero, List.set_cons_succ]
      refine wpAnyH_done (by kernel_rfl) ?_ _
      try go_wp2_with fail
      go_meet
      case rel => exact ⟨w4.heap.size, at1, rfl, rfl, heap_alloc_new w4 _, (by have := hH4.1.size; omega), hI.below ((Below.refl _ _).alloc (Nat.le_refl _) _), hHeld.1⟩
    · go_simp
      refine hK.out _ _ ?_ (fun hHeld => ?_)
      · exact hHeld.next (by omega) ((Below.refl _ _).alloc (Nat.le_refl _) _)
      clear hK K
      try simp only [Act.put, List.setIfInBounds_toArray, List.set_cons_zero, List.set_cons_succ]
      refine take_one (i := 4) rfl (by kernel_rfl) (fun K hK => ?_)
      go_simp
      refine (hcall _ (h.below (hb0.trans (hHeld.1.mono hb0.size)))).mono ?_; rintro e w4 ⟨at1, rfl, hI, hb4⟩; have j1 : w4.heap[w.heap.size + 1 + 1 + 1]? = some (.cells #[.slice none 0 0, .int .i64 0, .int .i64 0] 42 (0, 0)) := (hb4.block _ (by simp [hs0])).trans hZ; obtain ⟨c0, c1, c2⟩ := three_cells j1; obtain ⟨z0, z1, z2⟩ := three_soft j1; have HJ := hide_it j1; clear j1
      try go_wp2_with fail
      refine hK.out _ _ ?_ (fun hHeld => ?_)
      · exact hHeld.next (by omega) hb4
      clear hK K
      try simp only [Act.put, List.setIfInBounds_toArray, List.set_cons_zero, List.set_cons_succ]
      refine take_on (i := 5) (v := ?_) rfl rfl (by kernel_rfl) (by kernel_rfl) (by kernel_rfl) (fun _ _ _ h => h) rfl ?_ hHeld ?_
      rotate_left
      · (intro wq hSq; obtain ⟨_, hq0, hq1, hq2, hq3⟩ := hSq; go_simp <;> first | with_reducible rfl | rfl)
      simp only [Act.put, List.setIfInBounds_toArray, List.set_cons_zero, List.set_cons_succ]
      refine take_on (i := 6) (v := ?_) rfl rfl (by kernel_rfl) (by kernel_rfl) (by kernel_rfl) (fun _ _ _ h => h) rfl ?_ hHeld ?_
      rotate_left
      · (intro wq hSq; obtain ⟨_, hq0, hq1, hq2, hq3⟩ := hSq; go_simp <;> first | with_reducible rfl | rfl)
      simp only [Act.put, List.setIfInBounds_toArray, List.set_cons_zero, List.set_cons_succ]
      refine take_on (i := 7) (v := ?_) rfl rfl (by kernel_rfl) (by kernel_rfl) (by kernel_rfl) (fun _ _ _ h => h) rfl ?_ hHeld ?_
      rotate_left
      · (intro wq hSq; obtain ⟨_, hq0, hq1, hq2, hq3⟩ := hSq; go_simp <;> first | with_reducible rfl | rfl)
      simp only [Act.put, List.setIfInBounds_toArray, List.set_cons_zero, List.set_cons_succ]
      refine take_on (i := 9) (v := ?_) rfl rfl (by kernel_rfl) (by kernel_rfl) (by kernel_rfl) (fun _ _ _ h => h) rfl ?_ hHeld ?_
      rotate_left
      · (intro wq hSq; obtain ⟨_, hq0, hq1, hq2, hq3⟩ := hSq; go_simp <;> first | with_reducible rfl | rfl)
      simp only [Act.put, List.setIfInBounds_toArray, List.set_cons_zero, List.set_cons_succ]
      refine take_one (i := 10) rfl (by kernel_rfl) (fun K hK => ?_)
      go_simp
      refine hK.out _ _ ?_ (fun hHeld => ?_)
      · exact ((hHeld.set (by omega) (by omega) _ _).set (by omega) (by omega) _ _).set (by omega) (by omega) _ _
      clear hK K
      try simp only [Act.put, List.setIfInBounds_toArray, List.set_cons_zero, List.set_cons_succ]
      refine wpAnyH_done (by kernel_rfl) ?_ _
      try go_wp2_with fail
      go_meet
      case rel => exact ⟨w.heap.size + 1 + 1 + 1, at1, rfl, rfl, set3 HJ.out _ _ _, by omega, h.again hI (hb0.trans (hHeld.1.mono hb0.size)), hHeld.1⟩
  case rest =>
    obtain ⟨g, at1, rfl, rfl, hg, hge, hI, hbc⟩ := hcut
    have hbw : Below w.heap.size w wc := hb0.trans (hbc.mono (by omega))
    have hRc : wc.heap[w.heap.size + 1 + 1]? = _ := (hbc.block (w.heap.size + 1 + 1) (by omega)).trans hR0
    obtain ⟨c0, c1, c2⟩ := three_cells hg
    obtain ⟨q0, q1, q2⟩ := three_cells hRc
    obtain ⟨z0, z1, z2⟩ := three_soft hRc
    have HRC := hide_it hRc
    clear hg hRc hR0 hbc hb0 hTS
    go_wp2_with fail
    go_region
    all_goals go_wp2_with fail
    have g5 := set3 HRC.out (.slice a B.length cap) (.int .i64 (at1 : Int)) (.int .i64 (x.2.2 : Int))
    obtain ⟨v0, v1, v2⟩ := three_cells g5
    refine bodyPost_ret (v := .tuple #[.int .u64 (x.1 : Int), .slice none 0 0, .agg #[.slice a B.length cap, .int .i64 (at1 : Int), .int .i64 (x.2.2 : Int)]]) (by simp [results, Try.results24, go_sem, v0, v1, v2]) rfl ?_
    have b5 := (below3 hbw (show w.heap.size ≤ w.heap.size + 1 + 1 by omega) (.slice a B.length cap) (.int .i64 (at1 : Int)) (.int .i64 (x.2.2 : Int))).drew
    exact ⟨at1, none, 0, rfl, .inl rfl, fun _ => ⟨rfl, rfl⟩, h.again hI b5, b5⟩

set_option maxRecDepth 100000 in
set_option maxHeartbeats 1000000 in
theorem told2 (a : Option Addr) (B : List Nat) (cap at_ : Nat) (low high most : Int) (s : List Nat × Nat) (w : World) (h : RefIs w a B cap at_ s) :
    Calls Try.prog 24 #[refV a B.length cap at_ s.2, .agg #[.int .i64 2, .int .i64 low, .int .i64 high, .int .i64 most]] w fun e w' => Told a B cap w (((rdOf 0 (takeFixed 4) s).1, []), (rdOf 0 (takeFixed 4) s).2) e w' := by
  have hb0 := told_below w a B.length cap at_ s.2 2 low high most
  have hTS := told_cells w a B.length cap at_ s.2 2 low high most
  have hs0 := told_size w a B.length cap at_ s.2 2 low high most
  have hcall : ∀ W, RefIs W a B cap at_ s → Calls Try.prog 44 #[.agg #[.slice a B.length cap, .int .i64 (at_ : Int), .int .i64 (s.2 : Int)], .int .i64 (IntKind.i64.wrap 4)] W (fun e w' => ∃ at1 : Nat, e = .returned (.tuple #[.int .u64 ((rdOf 0 (takeFixed 4) s).1 : Int), .agg #[.slice a B.length cap, .int .i64 (at1 : Int), .int .i64 ((rdOf 0 (takeFixed 4) s).2.2 : Int)]]) ∧ RefIs w' a B cap at1 (rdOf 0 (takeFixed 4) s).2 ∧ Below W.heap.size W w') := fun W hW => rtake_any a B cap at_ 4 s W hW (by omega)
  generalize rdOf 0 (takeFixed 4) s = x at *
  have hR0 : (toldW w a B.length cap at_ s.2 2 low high most).heap[w.heap.size + 1 + 1]? = some (.cells #[.slice none 0 0, .int .i64 0, .int .i64 0] 42 (0, 0)) := by
    have e := heap_alloc_new ((w.alloc (.cells #[.slice a B.length cap, .int .i64 (at_ : Int), .int .i64 (s.2 : Int)] 42)).alloc (.cells #[.int .i64 2, .int .i64 low, .int .i64 high, .int .i64 most] 48)) (.cells #[.slice none 0 0, .int .i64 0, .int .i64 0] 42)
    simp only [World.size_alloc] at e
    exact e
  unfold refV
  go_enter Try.func24, Try.ntmps24
  go_wp2_with fail
  obtain ⟨W0, hW0⟩ : ∃ W0, W0 = toldW w a B.length cap at_ s.2 2 low high most := ⟨_, rfl⟩
  rw [← hW0] at hb0 hTS hs0 hR0
  unfold toldW at hW0
  rw [← hW0]
  clear hW0
  go_cut [7, 8] (fun n p wc => ∃ g at1 : Nat, n = .int .u64 (x.1 : Int) ∧ p = .pointer (some ⟨g, 0, none⟩) ∧ wc.heap[g]? = some (.cells #[.slice a B.length cap, .int .i64 (at1 : Int), .int .i64 (x.2.2 : Int)] 42 (0, 0)) ∧ w.heap.size + 3 ≤ g ∧ RefIs wc a B cap at1 x.2 ∧ Below W0.heap.size W0 wc)
  case first =>
    have hZ := heap_alloc_new W0.drew (.cells #[.slice none 0 0, .int .i64 0, .int .i64 0] 42)
    rw [show W0.drew.heap.size = w.heap.size + 1 + 1 + 1 from hs0] at hZ
    refine wp_region_held_drew (S := TS W0 w.heap.size (.slice a B.length cap) (.int .i64 (at_ : Int)) (.int .i64 (s.2 : Int)) (.int .i64 2)) (by kernel_rfl) ?_ (fun hHeld => ?_)
    · exact hTS
    refine take_on (i := 0) (v := ?_) rfl rfl (by kernel_rfl) (by kernel_rfl) (by kernel_rfl) (fun _ _ _ h => h) rfl ?_ hHeld ?_
    rotate_left
    · (intro wq hSq; obtain ⟨_, hq0, hq1, hq2, hq3⟩ := hSq; go_simp <;> first | with_reducible rfl | rfl)
    simp only [Act.put, List.setIfInBounds_toArray, List.set_cons_zero, List.set_cons_succ]
    refine take_on (i := 1) (v := ?_) rfl rfl (by kernel_rfl) (by kernel_rfl) (by kernel_rfl) (fun _ _ _ h => h) rfl ?_ hHeld ?_
    rotate_left
    · (intro wq hSq; obtain ⟨_, hq0, hq1, hq2, hq3⟩ := hSq; go_simp <;> first | with_reducible rfl | rfl)
    simp only [Act.put, List.setIfInBounds_toArray, List.set_cons_zero, List.set_cons_succ]
    refine take_on (i := 2) (v := ?_) rfl rfl (by kernel_rfl) (by kernel_rfl) (by kernel_rfl) (fun _ _ _ h => h) rfl ?_ hHeld ?_
    rotate_left
    · (intro wq hSq; obtain ⟨_, hq0, hq1, hq2, hq3⟩ := hSq; go_simp <;> first | with_reducible rfl | rfl)
    simp only [Act.put, List.setIfInBounds_toArray, List.set_cons_zero, List.set_cons_succ]
    refine take_on (i := 3) (v := ?_) rfl rfl (by kernel_rfl) (by kernel_rfl) (by kernel_rfl) (fun _ _ _ h => h) rfl ?_ hHeld ?_
    rotate_left
    · (intro wq hSq; obtain ⟨_, hq0, hq1, hq2, hq3⟩ := hSq; go_simp <;> first | with_reducible rfl | rfl)
    simp only [Act.put, List.setIfInBounds_toArray, List.set_cons_zero, List.set_cons_succ]
    refine take_two (i := 4) (j := 8) rfl rfl (by kernel_rfl) (fun K hK => ?_) (fun K hK => ?_)
    · go_simp
      refine (hcall _ (h.below (hb0.trans (hHeld.1.mono hb0.size)))).mono ?_; rintro e w4 ⟨at1, rfl, hI, hb4⟩; have hH4 : TS W0 w.heap.size (.slice a B.length cap) (.int .i64 (at_ : Int)) (.int .i64 (s.2 : Int)) (.int .i64 2) w4 := hHeld.next (by omega) hb4
      try go_wp2_with fail
      refine hK.out _ _ ?_ (fun hHeld => ?_)
      · exact hH4
      clear hK K
      try simp only [Act.put, List.setIfInBounds_toArray, List.set_cons_zero, List.set_cons_succ]
      refine take_on (i := 5) (v := ?_) rfl rfl (by kernel_rfl) (by kernel_rfl) (by kernel_rfl) (fun _ _ _ h => h) rfl ?_ hHeld ?_
      rotate_left
      · (intro wq hSq; obtain ⟨_, hq0, hq1, hq2, hq3⟩ := hSq; go_simp <;> first | with_reducible rfl | rfl)
      simp only [Act.put, List.setIfInBounds_toArray, List.set_cons_zero, List.set_cons_succ]
      refine take_on (i := 6) (v := ?_) rfl rfl (by kernel_rfl) (by kernel_rfl) (by kernel_rfl) (fun _ _ _ h => h) rfl ?_ hHeld ?_
      rotate_left
      · (intro wq hSq; obtain ⟨_, hq0, hq1, hq2, hq3⟩ := hSq; go_simp <;> first | with_reducible rfl | rfl)
      simp only [Act.put, List.setIfInBounds_toArray, List.set_cons_zero, List.set_cons_succ]
      refine take_on (i := 7) (v := ?_) rfl rfl (by kernel_rfl) (by kernel_rfl) (by kernel_rfl) (fun _ _ _ h => h) rfl ?_ hHeld ?_
      rotate_left
      · (intro wq hSq; obtain ⟨_, hq0, hq1, hq2, hq3⟩ := hSq; go_simp <;> first | with_reducible rfl | rfl)
      simp only [Act.put, List.setIfInBounds_toArray, List.set_cons_zero, List.set_cons_succ]
      refine take_one (i := 8) rfl (by kernel_rfl) (fun K hK => ?_)
      go_simp
      refine hK.out _ _ ?_ (fun hHeld => ?_)
      · exact hHeld.next (by omega) ((Below.refl _ _).alloc (Nat.le_refl _) _)
      clear hK K
      try simp only [Act.put, List.setIfInBounds_toArray, List.set_cons_zero, List.set_cons_succ]
      refine take_on (i := 9) (v := ?_) rfl rfl (by kernel_rfl) (by kernel_rfl) (by kernel_rfl) (fun _ _ _ h => h) rfl ?_ hHeld ?_
      rotate_left
      · (intro wq hSq; obtain ⟨_, hq0, hq1, hq2, hq3⟩ := hSq; go_simp <;> first | with_reducible rfl | rfl)
      simp only [Act.put, List.setIfInBounds_toArray, List.set_cons_zero, List.set_cons_succ]
      refine take_one (i := 10) rfl (by kernel_rfl) (fun K hK => ?_)
      go_simp
      refine hK.out _ _ ?_ (fun hHeld => ?_)
      · exact hH4.next (by omega) ((Below.refl _ _).alloc (Nat.le_refl _) _)
      clear hK K
      try simp only [Act.put, List.setIfInBounds_toArray, List.set_cons_zero, List.set_cons_succ]
      refine wpAnyH_done (by kernel_rfl) ?_ _
      try go_wp2_with fail
      go_meet
      case rel => exact ⟨w4.heap.size, at1, rfl, rfl, heap_alloc_new w4 _, (by have := hH4.1.size; omega), hI.below ((Below.refl _ _).alloc (Nat.le_refl _) _), hHeld.1⟩
    · go_simp
      refine hK.out _ _ ?_ (fun hHeld => ?_)
      · exact hHeld.next (by omega) ((Below.refl _ _).alloc (Nat.le_refl _) _)
      clear hK K
      try simp only [Act.put, List.setIfInBounds_toArray, List.set_cons_zero, List.set_cons_succ]
      refine take_one (i := 4) rfl (by kernel_rfl) (fun K hK => ?_)
      go_simp
      refine (hcall _ (h.below (hb0.trans (hHeld.1.mono hb0.size)))).mono ?_; rintro e w4 ⟨at1, rfl, hI, hb4⟩; have j1 : w4.heap[w.heap.size + 1 + 1 + 1]? = some (.cells #[.slice none 0 0, .int .i64 0, .int .i64 0] 42 (0, 0)) := (hb4.block _ (by simp [hs0])).trans hZ; obtain ⟨c0, c1, c2⟩ := three_cells j1; obtain ⟨z0, z1, z2⟩ := three_soft j1; have HJ := hide_it j1; clear j1
      try go_wp2_with fail
      refine hK.out _ _ ?_ (fun hHeld => ?_)
      · exact hHeld.next (by omega) hb4
      clear hK K
      try simp only [Act.put, List.setIfInBounds_toArray, List.set_cons_zero, List.set_cons_succ]
      refine take_on (i := 5) (v := ?_) rfl rfl (by kernel_rfl) (by kernel_rfl) (by kernel_rfl) (fun _ _ _ h => h) rfl ?_ hHeld ?_
      rotate_left
      · (intro wq hSq; obtain ⟨_, hq0, hq1, hq2, hq3⟩ := hSq; go_simp <;> first | with_reducible rfl | rfl)
      simp only [Act.put, List.setIfInBounds_toArray, List.set_cons_zero, List.set_cons_succ]
      refine take_on (i := 6) (v := ?_) rfl rfl (by kernel_rfl) (by kernel_rfl) (by kernel_rfl) (fun _ _ _ h => h) rfl ?_ hHeld ?_
      rotate_left
      · (intro wq hSq; obtain ⟨_, hq0, hq1, hq2, hq3⟩ := hSq; go_simp <;> first | with_reducible rfl | rfl)
      simp only [Act.put, List.setIfInBounds_toArray, List.set_cons_zero, List.set_cons_succ]
      refine take_on (i := 7) (v := ?_) rfl rfl (by kernel_rfl) (by kernel_rfl) (by kernel_rfl) (fun _ _ _ h => h) rfl ?_ hHeld ?_
      rotate_left
      · (intro wq hSq; obtain ⟨_, hq0, hq1, hq2, hq3⟩ := hSq; go_simp <;> first | with_reducible rfl | rfl)
      simp only [Act.put, List.setIfInBounds_toArray, List.set_cons_zero, List.set_cons_succ]
      refine take_on (i := 9) (v := ?_) rfl rfl (by kernel_rfl) (by kernel_rfl) (by kernel_rfl) (fun _ _ _ h => h) rfl ?_ hHeld ?_
      rotate_left
      · (intro wq hSq; obtain ⟨_, hq0, hq1, hq2, hq3⟩ := hSq; go_simp <;> first | with_reducible rfl | rfl)
      simp only [Act.put, List.setIfInBounds_toArray, List.set_cons_zero, List.set_cons_succ]
      refine take_one (i := 10) rfl (by kernel_rfl) (fun K hK => ?_)
      go_simp
      refine hK.out _ _ ?_ (fun hHeld => ?_)
      · exact ((hHeld.set (by omega) (by omega) _ _).set (by omega) (by omega) _ _).set (by omega) (by omega) _ _
      clear hK K
      try simp only [Act.put, List.setIfInBounds_toArray, List.set_cons_zero, List.set_cons_succ]
      refine wpAnyH_done (by kernel_rfl) ?_ _
      try go_wp2_with fail
      go_meet
      case rel => exact ⟨w.heap.size + 1 + 1 + 1, at1, rfl, rfl, set3 HJ.out _ _ _, by omega, h.again hI (hb0.trans (hHeld.1.mono hb0.size)), hHeld.1⟩
  case rest =>
    obtain ⟨g, at1, rfl, rfl, hg, hge, hI, hbc⟩ := hcut
    have hbw : Below w.heap.size w wc := hb0.trans (hbc.mono (by omega))
    have hRc : wc.heap[w.heap.size + 1 + 1]? = _ := (hbc.block (w.heap.size + 1 + 1) (by omega)).trans hR0
    obtain ⟨c0, c1, c2⟩ := three_cells hg
    obtain ⟨q0, q1, q2⟩ := three_cells hRc
    obtain ⟨z0, z1, z2⟩ := three_soft hRc
    have HRC := hide_it hRc
    clear hg hRc hR0 hbc hb0 hTS
    go_wp2_with fail
    go_region
    all_goals go_wp2_with fail
    have g5 := set3 HRC.out (.slice a B.length cap) (.int .i64 (at1 : Int)) (.int .i64 (x.2.2 : Int))
    obtain ⟨v0, v1, v2⟩ := three_cells g5
    refine bodyPost_ret (v := .tuple #[.int .u64 (x.1 : Int), .slice none 0 0, .agg #[.slice a B.length cap, .int .i64 (at1 : Int), .int .i64 (x.2.2 : Int)]]) (by simp [results, Try.results24, go_sem, v0, v1, v2]) rfl ?_
    have b5 := (below3 hbw (show w.heap.size ≤ w.heap.size + 1 + 1 by omega) (.slice a B.length cap) (.int .i64 (at1 : Int)) (.int .i64 (x.2.2 : Int))).drew
    exact ⟨at1, none, 0, rfl, .inl rfl, fun _ => ⟨rfl, rfl⟩, h.again hI b5, b5⟩

set_option maxRecDepth 100000 in
set_option maxHeartbeats 1000000 in
theorem told3 (a : Option Addr) (B : List Nat) (cap at_ : Nat) (low high most : Int) (s : List Nat × Nat) (w : World) (h : RefIs w a B cap at_ s) :
    Calls Try.prog 24 #[refV a B.length cap at_ s.2, .agg #[.int .i64 3, .int .i64 low, .int .i64 high, .int .i64 most]] w fun e w' => Told a B cap w (((rdOf 0 (takeFixed 8) s).1, []), (rdOf 0 (takeFixed 8) s).2) e w' := by
  have hb0 := told_below w a B.length cap at_ s.2 3 low high most
  have hTS := told_cells w a B.length cap at_ s.2 3 low high most
  have hs0 := told_size w a B.length cap at_ s.2 3 low high most
  have hcall : ∀ W, RefIs W a B cap at_ s → Calls Try.prog 44 #[.agg #[.slice a B.length cap, .int .i64 (at_ : Int), .int .i64 (s.2 : Int)], .int .i64 (IntKind.i64.wrap 8)] W (fun e w' => ∃ at1 : Nat, e = .returned (.tuple #[.int .u64 ((rdOf 0 (takeFixed 8) s).1 : Int), .agg #[.slice a B.length cap, .int .i64 (at1 : Int), .int .i64 ((rdOf 0 (takeFixed 8) s).2.2 : Int)]]) ∧ RefIs w' a B cap at1 (rdOf 0 (takeFixed 8) s).2 ∧ Below W.heap.size W w') := fun W hW => rtake_any a B cap at_ 8 s W hW (by omega)
  generalize rdOf 0 (takeFixed 8) s = x at *
  have hR0 : (toldW w a B.length cap at_ s.2 3 low high most).heap[w.heap.size + 1 + 1]? = some (.cells #[.slice none 0 0, .int .i64 0, .int .i64 0] 42 (0, 0)) := by
    have e := heap_alloc_new ((w.alloc (.cells #[.slice a B.length cap, .int .i64 (at_ : Int), .int .i64 (s.2 : Int)] 42)).alloc (.cells #[.int .i64 3, .int .i64 low, .int .i64 high, .int .i64 most] 48)) (.cells #[.slice none 0 0, .int .i64 0, .int .i64 0] 42)
    simp only [World.size_alloc] at e
    exact e
  unfold refV
  go_enter Try.func24, Try.ntmps24
  go_wp2_with fail
  obtain ⟨W0, hW0⟩ : ∃ W0, W0 = toldW w a B.length cap at_ s.2 3 low high most := ⟨_, rfl⟩
  rw [← hW0] at hb0 hTS hs0 hR0
  unfold toldW at hW0
  rw [← hW0]
  clear hW0
  go_cut [7, 8] (fun n p wc => ∃ g at1 : Nat, n = .int .u64 (x.1 : Int) ∧ p = .pointer (some ⟨g, 0, none⟩) ∧ wc.heap[g]? = some (.cells #[.slice a B.length cap, .int .i64 (at1 : Int), .int .i64 (x.2.2 : Int)] 42 (0, 0)) ∧ w.heap.size + 3 ≤ g ∧ RefIs wc a B cap at1 x.2 ∧ Below W0.heap.size W0 wc)
  case first =>
    have hZ := heap_alloc_new W0.drew (.cells #[.slice none 0 0, .int .i64 0, .int .i64 0] 42)
    rw [show W0.drew.heap.size = w.heap.size + 1 + 1 + 1 from hs0] at hZ
    refine wp_region_held_drew (S := TS W0 w.heap.size (.slice a B.length cap) (.int .i64 (at_ : Int)) (.int .i64 (s.2 : Int)) (.int .i64 3)) (by kernel_rfl) ?_ (fun hHeld => ?_)
    · exact hTS
    refine take_on (i := 0) (v := ?_) rfl rfl (by kernel_rfl) (by kernel_rfl) (by kernel_rfl) (fun _ _ _ h => h) rfl ?_ hHeld ?_
    rotate_left
    · (intro wq hSq; obtain ⟨_, hq0, hq1, hq2, hq3⟩ := hSq; go_simp <;> first | with_reducible rfl | rfl)
    simp only [Act.put, List.setIfInBounds_toArray, List.set_cons_zero, List.set_cons_succ]
    refine take_on (i := 1) (v := ?_) rfl rfl (by kernel_rfl) (by kernel_rfl) (by kernel_rfl) (fun _ _ _ h => h) rfl ?_ hHeld ?_
    rotate_left
    · (intro wq hSq; obtain ⟨_, hq0, hq1, hq2, hq3⟩ := hSq; go_simp <;> first | with_reducible rfl | rfl)
    simp only [Act.put, List.setIfInBounds_toArray, List.set_cons_zero, List.set_cons_succ]
    refine take_on (i := 2) (v := ?_) rfl rfl (by kernel_rfl) (by kernel_rfl) (by kernel_rfl) (fun _ _ _ h => h) rfl ?_ hHeld ?_
    rotate_left
    · (intro wq hSq; obtain ⟨_, hq0, hq1, hq2, hq3⟩ := hSq; go_simp <;> first | with_reducible rfl | rfl)
    simp only [Act.put, List.setIfInBounds_toArray, List.set_cons_zero, List.set_cons_succ]
    refine take_on (i := 3) (v := ?_) rfl rfl (by kernel_rfl) (by kernel_rfl) (by kernel_rfl) (fun _ _ _ h => h) rfl ?_ hHeld ?_
    rotate_left
    · (intro wq hSq; obtain ⟨_, hq0, hq1, hq2, hq3⟩ := hSq; go_simp <;> first | with_reducible rfl | rfl)
    simp only [Act.put, List.setIfInBounds_toArray, List.set_cons_zero, List.set_cons_succ]
    refine take_two (i := 4) (j := 8) rfl rfl (by kernel_rfl) (fun K hK => ?_) (fun K hK => ?_)
    · go_simp
      refine (hcall _ (h.below (hb0.trans (hHeld.1.mono hb0.size)))).mono ?_; rintro e w4 ⟨at1, rfl, hI, hb4⟩; have hH4 : TS W0 w.heap.size (.slice a B.length cap) (.int .i64 (at_ : Int)) (.int .i64 (s.2 : Int)) (.int .i64 3) w4 := hHeld.next (by omega) hb4
      try go_wp2_with fail
      refine hK.out _ _ ?_ (fun hHeld => ?_)
      · exact hH4
      clear hK K
      try simp only [Act.put, List.setIfInBounds_toArray, List.set_cons_zero, List.set_cons_succ]
      refine take_on (i := 5) (v := ?_) rfl rfl (by kernel_rfl) (by kernel_rfl) (by kernel_rfl) (fun _ _ _ h => h) rfl ?_ hHeld ?_
      rotate_left
      · (intro wq hSq; obtain ⟨_, hq0, hq1, hq2, hq3⟩ := hSq; go_simp <;> first | with_reducible rfl | rfl)
      simp only [Act.put, List.setIfInBounds_toArray, List.set_cons_zero, List.set_cons_succ]
      refine take_on (i := 6) (v := ?_) rfl rfl (by kernel_rfl) (by kernel_rfl) (by kernel_rfl) (fun _ _ _ h => h) rfl ?_ hHeld ?_
      rotate_left
      · (intro wq hSq; obtain ⟨_, hq0, hq1, hq2, hq3⟩ := hSq; go_simp <;> first | with_reducible rfl | rfl)
      simp only [Act.put, List.setIfInBounds_toArray, List.set_cons_zero, List.set_cons_succ]
      refine take_on (i := 7) (v := ?_) rfl rfl (by kernel_rfl) (by kernel_rfl) (by kernel_rfl) (fun _ _ _ h => h) rfl ?_ hHeld ?_
      rotate_left
      · (intro wq hSq; obtain ⟨_, hq0, hq1, hq2, hq3⟩ := hSq; go_simp <;> first | with_reducible rfl | rfl)
      simp only [Act.put, List.setIfInBounds_toArray, List.set_cons_zero, List.set_cons_succ]
      refine take_one (i := 8) rfl (by kernel_rfl) (fun K hK => ?_)
      go_simp
      refine hK.out _ _ ?_ (fun hHeld => ?_)
      · exact hHeld.next (by omega) ((Below.refl _ _).alloc (Nat.le_refl _) _)
      clear hK K
      try simp only [Act.put, List.setIfInBounds_toArray, List.set_cons_zero, List.set_cons_succ]
      refine take_on (i := 9) (v := ?_) rfl rfl (by kernel_rfl) (by kernel_rfl) (by kernel_rfl) (fun _ _ _ h => h) rfl ?_ hHeld ?_
      rotate_left
      · (intro wq hSq; obtain ⟨_, hq0, hq1, hq2, hq3⟩ := hSq; go_simp <;> first | with_reducible rfl | rfl)
      simp only [Act.put, List.setIfInBounds_toArray, List.set_cons_zero, List.set_cons_succ]
      refine take_one (i := 10) rfl (by kernel_rfl) (fun K hK => ?_)
      go_simp
      refine hK.out _ _ ?_ (fun hHeld => ?_)
      · exact hH4.next (by omega) ((Below.refl _ _).alloc (Nat.le_refl _) _)
      clear hK K
      try simp only [Act.put, List.setIfInBounds_toArray, List.set_cons_zero, List.set_cons_succ]
      refine wpAnyH_done (by kernel_rfl) ?_ _
      try go_wp2_with fail
      go_meet
      case rel => exact ⟨w4.heap.size, at1, rfl, rfl, heap_alloc_new w4 _, (by have := hH4.1.size; omega), hI.below ((Below.refl _ _).alloc (Nat.le_refl _) _), hHeld.1⟩
    · go_simp
      refine hK.out _ _ ?_ (fun hHeld => ?_)
      · exact hHeld.next (by omega) ((Below.refl _ _).alloc (Nat.le_refl _) _)
      clear hK K
      try simp only [Act.put, List.setIfInBounds_toArray, List.set_cons_zero, List.set_cons_succ]
      refine take_one (i := 4) rfl (by kernel_rfl) (fun K hK => ?_)
      go_simp
      refine (hcall _ (h.below (hb0.trans (hHeld.1.mono hb0.size)))).mono ?_; rintro e w4 ⟨at1, rfl, hI, hb4⟩; have j1 : w4.heap[w.heap.size + 1 + 1 + 1]? = some (.cells #[.slice none 0 0, .int .i64 0, .int .i64 0] 42 (0, 0)) := (hb4.block _ (by simp [hs0])).trans hZ; obtain ⟨c0, c1, c2⟩ := three_cells j1; obtain ⟨z0, z1, z2⟩ := three_soft j1; have HJ := hide_it j1; clear j1
      try go_wp2_with fail
      refine hK.out _ _ ?_ (fun hHeld => ?_)
      · exact hHeld.next (by omega) hb4
      clear hK K
      try simp only [Act.put, List.setIfInBounds_toArray, List.set_cons_zero, List.set_cons_succ]
      refine take_on (i := 5) (v := ?_) rfl rfl (by kernel_rfl) (by kernel_rfl) (by kernel_rfl) (fun _ _ _ h => h) rfl ?_ hHeld ?_
      rotate_left
      · (intro wq hSq; obtain ⟨_, hq0, hq1, hq2, hq3⟩ := hSq; go_simp <;> first | with_reducible rfl | rfl)
      simp only [Act.put, List.setIfInBounds_toArray, List.set_cons_zero, List.set_cons_succ]
      refine take_on (i := 6) (v := ?_) rfl rfl (by kernel_rfl) (by kernel_rfl) (by kernel_rfl) (fun _ _ _ h => h) rfl ?_ hHeld ?_
      rotate_left
      · (intro wq hSq; obtain ⟨_, hq0, hq1, hq2, hq3⟩ := hSq; go_simp <;> first | with_reducible rfl | rfl)
      simp only [Act.put, List.setIfInBounds_toArray, List.set_cons_zero, List.set_cons_succ]
      refine take_on (i := 7) (v := ?_) rfl rfl (by kernel_rfl) (by kernel_rfl) (by kernel_rfl) (fun _ _ _ h => h) rfl ?_ hHeld ?_
      rotate_left
      · (intro wq hSq; obtain ⟨_, hq0, hq1, hq2, hq3⟩ := hSq; go_simp <;> first | with_reducible rfl | rfl)
      simp only [Act.put, List.setIfInBounds_toArray, List.set_cons_zero, List.set_cons_succ]
      refine take_on (i := 9) (v := ?_) rfl rfl (by kernel_rfl) (by kernel_rfl) (by kernel_rfl) (fun _ _ _ h => h) rfl ?_ hHeld ?_
      rotate_left
      · (intro wq hSq; obtain ⟨_, hq0, hq1, hq2, hq3⟩ := hSq; go_simp <;> first | with_reducible rfl | rfl)
      simp only [Act.put, List.setIfInBounds_toArray, List.set_cons_zero, List.set_cons_succ]
      refine take_one (i := 10) rfl (by kernel_rfl) (fun K hK => ?_)
      go_simp
      refine hK.out _ _ ?_ (fun hHeld => ?_)
      · exact ((hHeld.set (by omega) (by omega) _ _).set (by omega) (by omega) _ _).set (by omega) (by omega) _ _
      clear hK K
      try simp only [Act.put, List.setIfInBounds_toArray, List.set_cons_zero, List.set_cons_succ]
      refine wpAnyH_done (by kernel_rfl) ?_ _
      try go_wp2_with fail
      go_meet
      case rel => exact ⟨w.heap.size + 1 + 1 + 1, at1, rfl, rfl, set3 HJ.out _ _ _, by omega, h.again hI (hb0.trans (hHeld.1.mono hb0.size)), hHeld.1⟩
  case rest =>
    obtain ⟨g, at1, rfl, rfl, hg, hge, hI, hbc⟩ := hcut
    have hbw : Below w.heap.size w wc := hb0.trans (hbc.mono (by omega))
    have hRc : wc.heap[w.heap.size + 1 + 1]? = _ := (hbc.block (w.heap.size + 1 + 1) (by omega)).trans hR0
    obtain ⟨c0, c1, c2⟩ := three_cells hg
    obtain ⟨q0, q1, q2⟩ := three_cells hRc
    obtain ⟨z0, z1, z2⟩ := three_soft hRc
    have HRC := hide_it hRc
    clear hg hRc hR0 hbc hb0 hTS
    go_wp2_with fail
    go_region
    all_goals go_wp2_with fail
    have g5 := set3 HRC.out (.slice a B.length cap) (.int .i64 (at1 : Int)) (.int .i64 (x.2.2 : Int))
    obtain ⟨v0, v1, v2⟩ := three_cells g5
    refine bodyPost_ret (v := .tuple #[.int .u64 (x.1 : Int), .slice none 0 0, .agg #[.slice a B.length cap, .int .i64 (at1 : Int), .int .i64 (x.2.2 : Int)]]) (by simp [results, Try.results24, go_sem, v0, v1, v2]) rfl ?_
    have b5 := (below3 hbw (show w.heap.size ≤ w.heap.size + 1 + 1 by omega) (.slice a B.length cap) (.int .i64 (at1 : Int)) (.int .i64 (x.2.2 : Int))).drew
    exact ⟨at1, none, 0, rfl, .inl rfl, fun _ => ⟨rfl, rfl⟩, h.again hI b5, b5⟩

end Go.Proofs.Ytfhinodieghklaa
