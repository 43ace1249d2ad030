/- A call of a script, by its kind, over whatever the store answers. -/
import Derived.Test.YthaknohnccmfoaaSo18
import Derived.Test.YthaknohnccmfoaaOpenStv
namespace Go.Proofs.Ythaknohnccmfoaa
open Go.RowKit Go.Maps

/-- The version of a step, as it is handed in. -/
def vnOf (x : Stv) : Vn := ⟨x.key, x.stamp, x.val.a, x.val.p, x.val.c, x.dead⟩
def stepV (x : Stv) : Value := .agg #[.int .i64 x.k, .string x.key, .int .i64 x.stamp, .slice x.val.a x.val.p.length x.val.c, .bool x.dead, .string x.to]
def boxX (x : Stv) : Obj := .cells #[.int .i64 x.k, .string x.key, .int .i64 x.stamp, .slice x.val.a x.val.p.length x.val.c, .bool x.dead, .string x.to] 32
def boxT : Obj := .cells #[.int .i64 0, .int .i64 0, .int .i64 0, .bool false, .slice none 0 0, .slice none 0 0, .slice none 0 0] 35
/-- The world in which the store is called. -/
def Wc (w : World) (x : Stv) : World := ((w.alloc (boxX x)).alloc boxT).alloc boxT
/-- The three boxes stand. -/
structure Kc (w W' : World) (x : Stv) : Prop where
  b0 : W'.heap[w.heap.size]? = some (.cells #[.int .i64 x.k, .string x.key, .int .i64 x.stamp, .slice x.val.a x.val.p.length x.val.c, .bool x.dead, .string x.to] 32 (0, 0))
  b1 : W'.heap[w.heap.size + 1]? = some (.cells #[.int .i64 0, .int .i64 0, .int .i64 0, .bool false, .slice none 0 0, .slice none 0 0, .slice none 0 0] 35 (0, 0))
  b2 : W'.heap[w.heap.size + 2]? = some (.cells #[.int .i64 0, .int .i64 0, .int .i64 0, .bool false, .slice none 0 0, .slice none 0 0, .slice none 0 0] 35 (0, 0))
theorem wc_size (w : World) (x : Stv) : (Wc w x).heap.size = w.heap.size + 3 := by simp [Wc]
theorem wc_below (w : World) (x : Stv) : Below w.heap.size w (Wc w x) := (((Below.refl _ _).alloc (Nat.le_refl _) _).alloc (by simp) _).alloc (by simp; omega) _
theorem wc_kc (w : World) (x : Stv) : Kc w (Wc w x) x := by
  refine ⟨?_, ?_, ?_⟩
  · unfold Wc; rw [Below.heap_alloc _ _ _ (by simp; omega), Below.heap_alloc _ _ _ (by simp)]; exact heap_alloc_new w _
  · unfold Wc; rw [Below.heap_alloc _ _ _ (by simp)]
    have := heap_alloc_new (w.alloc (boxX x)) boxT
    rw [show (w.alloc (boxX x)).heap.size = w.heap.size + 1 by simp] at this; exact this
  · have := heap_alloc_new ((w.alloc (boxX x)).alloc boxT) boxT
    rw [show ((w.alloc (boxX x)).alloc boxT).heap.size = w.heap.size + 2 by simp] at this; exact this
theorem Kc.chg {S : Nat → Prop} {w W' : World} {x : Stv} (hc : Chg S (Wc w x) W') (hs : ∀ j, S j → j < w.heap.size) : Kc w W' x := by
  have k := wc_kc w x
  have hz := wc_size w x
  have st : ∀ j, w.heap.size ≤ j → j < w.heap.size + 3 → W'.heap[j]? = (Wc w x).heap[j]? := fun j h1 h2 => hc.block j (by omega) fun h => by have := hs j h; omega
  exact ⟨(st _ (by omega) (by omega)).trans k.b0, (st _ (by omega) (by omega)).trans k.b1, (st _ (by omega) (by omega)).trans k.b2⟩
/-- What the call writes, once the store has answered. -/
def Tc (w : World) (j : Nat) : Prop := j = w.heap.size + 1 ∨ j = w.heap.size + 2


set_option maxRecDepth 100000 in
set_option maxHeartbeats 4000000 in
theorem call_apply {w : World} {p : Option Addr} (x : Stv) (hk : x.k = 0) {R : Int → World → Prop} (hM : Calls Try.prog 31 #[.pointer p, verV (vnOf x)] (Wc w x) fun e W' => ∃ (E : Int), e = .returned (.int .i64 E) ∧ Kc w W' x ∧ R E W') :
    Calls Try.prog 13 #[.pointer p, stepV x] w fun e w' => ∃ (E : Int) (W' : World), e = .returned (.agg #[.int .i64 E, .int .i64 0, .int .i64 0, .bool false, .slice none 0 0, .slice none 0 0, .slice none 0 0]) ∧ R E W' ∧ Chg (Tc w) W' w' := by
  have kc := wc_kc w x
  obtain ⟨W, hW⟩ : ∃ W, W = Wc w x := ⟨_, rfl⟩
  rw [← hW] at hM kc
  unfold Wc boxX boxT at hW
  rw [hk] at hW
  have s0 : W.cell? ⟨w.heap.size, 0, none⟩ = some (.int .i64 0) := by rw [← hk]; exact cell_of_row _ _ _ _ _ _ kc.b0
  have s1 : W.cell? ⟨w.heap.size, 1, none⟩ = some (.string x.key) := cell_of_row _ _ _ _ _ _ kc.b0
  have s2 : W.cell? ⟨w.heap.size, 2, none⟩ = some (.int .i64 x.stamp) := cell_of_row _ _ _ _ _ _ kc.b0
  have s3 : W.cell? ⟨w.heap.size, 3, none⟩ = some (.slice x.val.a x.val.p.length x.val.c) := cell_of_row _ _ _ _ _ _ kc.b0
  have s4 : W.cell? ⟨w.heap.size, 4, none⟩ = some (.bool x.dead) := cell_of_row _ _ _ _ _ _ kc.b0
  have s5 : W.cell? ⟨w.heap.size, 5, none⟩ = some (.string x.to) := cell_of_row _ _ _ _ _ _ kc.b0
  clear kc
  unfold stepV
  rw [hk]
  unfold verV vnOf at hM
  simp only [] at hM
  go_enter Try.func13, Try.ntmps13
  go_wp2_with fail
  rw [← hW]
  clear hW
  refine hM.mono ?_
  rintro e W' ⟨E, rfl, kc, hR⟩
  have HR := hide_it hR
  have d0 : W'.cell? ⟨w.heap.size + 1, 0, none⟩ = some (.int .i64 0) := cell_of_row _ _ _ _ _ _ kc.b1
  have d1 : W'.cell? ⟨w.heap.size + 1, 1, none⟩ = some (.int .i64 0) := cell_of_row _ _ _ _ _ _ kc.b1
  have d2 : W'.cell? ⟨w.heap.size + 1, 2, none⟩ = some (.int .i64 0) := cell_of_row _ _ _ _ _ _ kc.b1
  have d3 : W'.cell? ⟨w.heap.size + 1, 3, none⟩ = some (.bool false) := cell_of_row _ _ _ _ _ _ kc.b1
  have d4 : W'.cell? ⟨w.heap.size + 1, 4, none⟩ = some (.slice none 0 0) := cell_of_row _ _ _ _ _ _ kc.b1
  have d5 : W'.cell? ⟨w.heap.size + 1, 5, none⟩ = some (.slice none 0 0) := cell_of_row _ _ _ _ _ _ kc.b1
  have d6 : W'.cell? ⟨w.heap.size + 1, 6, none⟩ = some (.slice none 0 0) := cell_of_row _ _ _ _ _ _ kc.b1
  have f1 : ∀ j, W'.frozen? ⟨w.heap.size + 1, j, none⟩ = false := fun j => frozen_of_row _ _ _ _ _ kc.b1
  have g0 : W'.cell? ⟨w.heap.size + 1 + 1, 0, none⟩ = some (.int .i64 0) := cell_of_row _ _ _ _ _ _ kc.b2
  have g1 : W'.cell? ⟨w.heap.size + 1 + 1, 1, none⟩ = some (.int .i64 0) := cell_of_row _ _ _ _ _ _ kc.b2
  have g2 : W'.cell? ⟨w.heap.size + 1 + 1, 2, none⟩ = some (.int .i64 0) := cell_of_row _ _ _ _ _ _ kc.b2
  have g3 : W'.cell? ⟨w.heap.size + 1 + 1, 3, none⟩ = some (.bool false) := cell_of_row _ _ _ _ _ _ kc.b2
  have g4 : W'.cell? ⟨w.heap.size + 1 + 1, 4, none⟩ = some (.slice none 0 0) := cell_of_row _ _ _ _ _ _ kc.b2
  have g5 : W'.cell? ⟨w.heap.size + 1 + 1, 5, none⟩ = some (.slice none 0 0) := cell_of_row _ _ _ _ _ _ kc.b2
  have g6 : W'.cell? ⟨w.heap.size + 1 + 1, 6, none⟩ = some (.slice none 0 0) := cell_of_row _ _ _ _ _ _ kc.b2
  have f2 : ∀ j, W'.frozen? ⟨w.heap.size + 1 + 1, j, none⟩ = false := fun j => frozen_of_row _ _ _ _ _ kc.b2
  clear hM hR kc s0 s1 s2 s3 s4 s5
  go_wp2
  refine bodyPost_ret (v := .agg #[.int .i64 E, .int .i64 0, .int .i64 0, .bool false, .slice none 0 0, .slice none 0 0, .slice none 0 0]) (by simp [results, Try.results13, d0, d1, d2, d3, d4, d5, d6, go_sem]) rfl ⟨E, W', rfl, HR.out, ?_⟩
  have hr : Chg (Tc w) W' W' := Chg.refl _ _
  exact ((((((((hr.setCell _ _ fun _ => .inr rfl).setCell _ _ fun _ => .inl rfl).setCell _ _ fun _ => .inl rfl).setCell _ _ fun _ => .inl rfl).setCell _ _ fun _ => .inl rfl).setCell _ _ fun _ => .inl rfl).setCell _ _ fun _ => .inl rfl).setCell _ _ fun _ => .inl rfl)



set_option maxRecDepth 100000 in
set_option maxHeartbeats 4000000 in
theorem call_get {w : World} {p : Option Addr} (x : Stv) (hk : x.k = 1) {R : Option Addr → Nat → Nat → Bool → World → Prop} (hM : Calls Try.prog 25 #[.pointer p, .string x.key, .int .i64 x.stamp] (Wc w x) fun e W' => ∃ (a : Option Addr) (n : Nat) (c : Nat) (b : Bool), e = .returned (.tuple #[.slice a n c, .bool b]) ∧ Kc w W' x ∧ R a n c b W') :
    Calls Try.prog 13 #[.pointer p, stepV x] w fun e w' => ∃ (a : Option Addr) (n : Nat) (c : Nat) (b : Bool) (W' : World), e = .returned (.agg #[.int .i64 0, .int .i64 0, .int .i64 0, .bool b, .slice a n c, .slice none 0 0, .slice none 0 0]) ∧ R a n c b W' ∧ Chg (Tc w) W' w' := by
  have kc := wc_kc w x
  obtain ⟨W, hW⟩ : ∃ W, W = Wc w x := ⟨_, rfl⟩
  rw [← hW] at hM kc
  unfold Wc boxX boxT at hW
  rw [hk] at hW
  have s0 : W.cell? ⟨w.heap.size, 0, none⟩ = some (.int .i64 1) := by rw [← hk]; exact cell_of_row _ _ _ _ _ _ kc.b0
  have s1 : W.cell? ⟨w.heap.size, 1, none⟩ = some (.string x.key) := cell_of_row _ _ _ _ _ _ kc.b0
  have s2 : W.cell? ⟨w.heap.size, 2, none⟩ = some (.int .i64 x.stamp) := cell_of_row _ _ _ _ _ _ kc.b0
  have s3 : W.cell? ⟨w.heap.size, 3, none⟩ = some (.slice x.val.a x.val.p.length x.val.c) := cell_of_row _ _ _ _ _ _ kc.b0
  have s4 : W.cell? ⟨w.heap.size, 4, none⟩ = some (.bool x.dead) := cell_of_row _ _ _ _ _ _ kc.b0
  have s5 : W.cell? ⟨w.heap.size, 5, none⟩ = some (.string x.to) := cell_of_row _ _ _ _ _ _ kc.b0
  clear kc
  unfold stepV
  rw [hk]
  go_enter Try.func13, Try.ntmps13
  go_wp2_with fail
  rw [← hW]
  clear hW
  refine hM.mono ?_
  rintro e W' ⟨a, n, c, b, rfl, kc, hR⟩
  have HR := hide_it hR
  have d0 : W'.cell? ⟨w.heap.size + 1, 0, none⟩ = some (.int .i64 0) := cell_of_row _ _ _ _ _ _ kc.b1
  have d1 : W'.cell? ⟨w.heap.size + 1, 1, none⟩ = some (.int .i64 0) := cell_of_row _ _ _ _ _ _ kc.b1
  have d2 : W'.cell? ⟨w.heap.size + 1, 2, none⟩ = some (.int .i64 0) := cell_of_row _ _ _ _ _ _ kc.b1
  have d3 : W'.cell? ⟨w.heap.size + 1, 3, none⟩ = some (.bool false) := cell_of_row _ _ _ _ _ _ kc.b1
  have d4 : W'.cell? ⟨w.heap.size + 1, 4, none⟩ = some (.slice none 0 0) := cell_of_row _ _ _ _ _ _ kc.b1
  have d5 : W'.cell? ⟨w.heap.size + 1, 5, none⟩ = some (.slice none 0 0) := cell_of_row _ _ _ _ _ _ kc.b1
  have d6 : W'.cell? ⟨w.heap.size + 1, 6, none⟩ = some (.slice none 0 0) := cell_of_row _ _ _ _ _ _ kc.b1
  have f1 : ∀ j, W'.frozen? ⟨w.heap.size + 1, j, none⟩ = false := fun j => frozen_of_row _ _ _ _ _ kc.b1
  have g0 : W'.cell? ⟨w.heap.size + 1 + 1, 0, none⟩ = some (.int .i64 0) := cell_of_row _ _ _ _ _ _ kc.b2
  have g1 : W'.cell? ⟨w.heap.size + 1 + 1, 1, none⟩ = some (.int .i64 0) := cell_of_row _ _ _ _ _ _ kc.b2
  have g2 : W'.cell? ⟨w.heap.size + 1 + 1, 2, none⟩ = some (.int .i64 0) := cell_of_row _ _ _ _ _ _ kc.b2
  have g3 : W'.cell? ⟨w.heap.size + 1 + 1, 3, none⟩ = some (.bool false) := cell_of_row _ _ _ _ _ _ kc.b2
  have g4 : W'.cell? ⟨w.heap.size + 1 + 1, 4, none⟩ = some (.slice none 0 0) := cell_of_row _ _ _ _ _ _ kc.b2
  have g5 : W'.cell? ⟨w.heap.size + 1 + 1, 5, none⟩ = some (.slice none 0 0) := cell_of_row _ _ _ _ _ _ kc.b2
  have g6 : W'.cell? ⟨w.heap.size + 1 + 1, 6, none⟩ = some (.slice none 0 0) := cell_of_row _ _ _ _ _ _ kc.b2
  have f2 : ∀ j, W'.frozen? ⟨w.heap.size + 1 + 1, j, none⟩ = false := fun j => frozen_of_row _ _ _ _ _ kc.b2
  clear hM hR kc s0 s1 s2 s3 s4 s5
  go_wp2
  refine bodyPost_ret (v := .agg #[.int .i64 0, .int .i64 0, .int .i64 0, .bool b, .slice a n c, .slice none 0 0, .slice none 0 0]) (by simp [results, Try.results13, d0, d1, d2, d3, d4, d5, d6, go_sem]) rfl ⟨a, n, c, b, W', rfl, HR.out, ?_⟩
  have hr : Chg (Tc w) W' W' := Chg.refl _ _
  exact (((((((((hr.setCell _ _ fun _ => .inr rfl).setCell _ _ fun _ => .inr rfl).setCell _ _ fun _ => .inl rfl).setCell _ _ fun _ => .inl rfl).setCell _ _ fun _ => .inl rfl).setCell _ _ fun _ => .inl rfl).setCell _ _ fun _ => .inl rfl).setCell _ _ fun _ => .inl rfl).setCell _ _ fun _ => .inl rfl)



set_option maxRecDepth 100000 in
set_option maxHeartbeats 4000000 in
theorem call_newest {w : World} {p : Option Addr} (x : Stv) (hk : x.k = 2) {R : Int → Bool → World → Prop} (hM : Calls Try.prog 27 #[.pointer p, .string x.key] (Wc w x) fun e W' => ∃ (n : Int) (b : Bool), e = .returned (.tuple #[.int .i64 n, .bool b]) ∧ Kc w W' x ∧ R n b W') :
    Calls Try.prog 13 #[.pointer p, stepV x] w fun e w' => ∃ (n : Int) (b : Bool) (W' : World), e = .returned (.agg #[.int .i64 0, .int .i64 n, .int .i64 0, .bool b, .slice none 0 0, .slice none 0 0, .slice none 0 0]) ∧ R n b W' ∧ Chg (Tc w) W' w' := by
  have kc := wc_kc w x
  obtain ⟨W, hW⟩ : ∃ W, W = Wc w x := ⟨_, rfl⟩
  rw [← hW] at hM kc
  unfold Wc boxX boxT at hW
  rw [hk] at hW
  have s0 : W.cell? ⟨w.heap.size, 0, none⟩ = some (.int .i64 2) := by rw [← hk]; exact cell_of_row _ _ _ _ _ _ kc.b0
  have s1 : W.cell? ⟨w.heap.size, 1, none⟩ = some (.string x.key) := cell_of_row _ _ _ _ _ _ kc.b0
  have s2 : W.cell? ⟨w.heap.size, 2, none⟩ = some (.int .i64 x.stamp) := cell_of_row _ _ _ _ _ _ kc.b0
  have s3 : W.cell? ⟨w.heap.size, 3, none⟩ = some (.slice x.val.a x.val.p.length x.val.c) := cell_of_row _ _ _ _ _ _ kc.b0
  have s4 : W.cell? ⟨w.heap.size, 4, none⟩ = some (.bool x.dead) := cell_of_row _ _ _ _ _ _ kc.b0
  have s5 : W.cell? ⟨w.heap.size, 5, none⟩ = some (.string x.to) := cell_of_row _ _ _ _ _ _ kc.b0
  clear kc
  unfold stepV
  rw [hk]
  go_enter Try.func13, Try.ntmps13
  go_wp2_with fail
  rw [← hW]
  clear hW
  refine hM.mono ?_
  rintro e W' ⟨n, b, rfl, kc, hR⟩
  have HR := hide_it hR
  have d0 : W'.cell? ⟨w.heap.size + 1, 0, none⟩ = some (.int .i64 0) := cell_of_row _ _ _ _ _ _ kc.b1
  have d1 : W'.cell? ⟨w.heap.size + 1, 1, none⟩ = some (.int .i64 0) := cell_of_row _ _ _ _ _ _ kc.b1
  have d2 : W'.cell? ⟨w.heap.size + 1, 2, none⟩ = some (.int .i64 0) := cell_of_row _ _ _ _ _ _ kc.b1
  have d3 : W'.cell? ⟨w.heap.size + 1, 3, none⟩ = some (.bool false) := cell_of_row _ _ _ _ _ _ kc.b1
  have d4 : W'.cell? ⟨w.heap.size + 1, 4, none⟩ = some (.slice none 0 0) := cell_of_row _ _ _ _ _ _ kc.b1
  have d5 : W'.cell? ⟨w.heap.size + 1, 5, none⟩ = some (.slice none 0 0) := cell_of_row _ _ _ _ _ _ kc.b1
  have d6 : W'.cell? ⟨w.heap.size + 1, 6, none⟩ = some (.slice none 0 0) := cell_of_row _ _ _ _ _ _ kc.b1
  have f1 : ∀ j, W'.frozen? ⟨w.heap.size + 1, j, none⟩ = false := fun j => frozen_of_row _ _ _ _ _ kc.b1
  have g0 : W'.cell? ⟨w.heap.size + 1 + 1, 0, none⟩ = some (.int .i64 0) := cell_of_row _ _ _ _ _ _ kc.b2
  have g1 : W'.cell? ⟨w.heap.size + 1 + 1, 1, none⟩ = some (.int .i64 0) := cell_of_row _ _ _ _ _ _ kc.b2
  have g2 : W'.cell? ⟨w.heap.size + 1 + 1, 2, none⟩ = some (.int .i64 0) := cell_of_row _ _ _ _ _ _ kc.b2
  have g3 : W'.cell? ⟨w.heap.size + 1 + 1, 3, none⟩ = some (.bool false) := cell_of_row _ _ _ _ _ _ kc.b2
  have g4 : W'.cell? ⟨w.heap.size + 1 + 1, 4, none⟩ = some (.slice none 0 0) := cell_of_row _ _ _ _ _ _ kc.b2
  have g5 : W'.cell? ⟨w.heap.size + 1 + 1, 5, none⟩ = some (.slice none 0 0) := cell_of_row _ _ _ _ _ _ kc.b2
  have g6 : W'.cell? ⟨w.heap.size + 1 + 1, 6, none⟩ = some (.slice none 0 0) := cell_of_row _ _ _ _ _ _ kc.b2
  have f2 : ∀ j, W'.frozen? ⟨w.heap.size + 1 + 1, j, none⟩ = false := fun j => frozen_of_row _ _ _ _ _ kc.b2
  clear hM hR kc s0 s1 s2 s3 s4 s5
  go_wp2
  refine bodyPost_ret (v := .agg #[.int .i64 0, .int .i64 n, .int .i64 0, .bool b, .slice none 0 0, .slice none 0 0, .slice none 0 0]) (by simp [results, Try.results13, d0, d1, d2, d3, d4, d5, d6, go_sem]) rfl ⟨n, b, W', rfl, HR.out, ?_⟩
  have hr : Chg (Tc w) W' W' := Chg.refl _ _
  exact (((((((((hr.setCell _ _ fun _ => .inr rfl).setCell _ _ fun _ => .inr rfl).setCell _ _ fun _ => .inl rfl).setCell _ _ fun _ => .inl rfl).setCell _ _ fun _ => .inl rfl).setCell _ _ fun _ => .inl rfl).setCell _ _ fun _ => .inl rfl).setCell _ _ fun _ => .inl rfl).setCell _ _ fun _ => .inl rfl)



set_option maxRecDepth 100000 in
set_option maxHeartbeats 4000000 in
theorem call_scan {w : World} {p : Option Addr} (x : Stv) (hk : x.k = 3) {R : Option Addr → Nat → Nat → World → Prop} (hM : Calls Try.prog 24 #[.pointer p, .string x.key, .string x.to, .int .i64 x.stamp] (Wc w x) fun e W' => ∃ (a : Option Addr) (n : Nat) (c : Nat), e = .returned (.slice a n c) ∧ Kc w W' x ∧ R a n c W') :
    Calls Try.prog 13 #[.pointer p, stepV x] w fun e w' => ∃ (a : Option Addr) (n : Nat) (c : Nat) (W' : World), e = .returned (.agg #[.int .i64 0, .int .i64 0, .int .i64 0, .bool false, .slice none 0 0, .slice a n c, .slice none 0 0]) ∧ R a n c W' ∧ Chg (Tc w) W' w' := by
  have kc := wc_kc w x
  obtain ⟨W, hW⟩ : ∃ W, W = Wc w x := ⟨_, rfl⟩
  rw [← hW] at hM kc
  unfold Wc boxX boxT at hW
  rw [hk] at hW
  have s0 : W.cell? ⟨w.heap.size, 0, none⟩ = some (.int .i64 3) := by rw [← hk]; exact cell_of_row _ _ _ _ _ _ kc.b0
  have s1 : W.cell? ⟨w.heap.size, 1, none⟩ = some (.string x.key) := cell_of_row _ _ _ _ _ _ kc.b0
  have s2 : W.cell? ⟨w.heap.size, 2, none⟩ = some (.int .i64 x.stamp) := cell_of_row _ _ _ _ _ _ kc.b0
  have s3 : W.cell? ⟨w.heap.size, 3, none⟩ = some (.slice x.val.a x.val.p.length x.val.c) := cell_of_row _ _ _ _ _ _ kc.b0
  have s4 : W.cell? ⟨w.heap.size, 4, none⟩ = some (.bool x.dead) := cell_of_row _ _ _ _ _ _ kc.b0
  have s5 : W.cell? ⟨w.heap.size, 5, none⟩ = some (.string x.to) := cell_of_row _ _ _ _ _ _ kc.b0
  clear kc
  unfold stepV
  rw [hk]
  go_enter Try.func13, Try.ntmps13
  go_wp2_with fail
  rw [← hW]
  clear hW
  refine hM.mono ?_
  rintro e W' ⟨a, n, c, rfl, kc, hR⟩
  have HR := hide_it hR
  have d0 : W'.cell? ⟨w.heap.size + 1, 0, none⟩ = some (.int .i64 0) := cell_of_row _ _ _ _ _ _ kc.b1
  have d1 : W'.cell? ⟨w.heap.size + 1, 1, none⟩ = some (.int .i64 0) := cell_of_row _ _ _ _ _ _ kc.b1
  have d2 : W'.cell? ⟨w.heap.size + 1, 2, none⟩ = some (.int .i64 0) := cell_of_row _ _ _ _ _ _ kc.b1
  have d3 : W'.cell? ⟨w.heap.size + 1, 3, none⟩ = some (.bool false) := cell_of_row _ _ _ _ _ _ kc.b1
  have d4 : W'.cell? ⟨w.heap.size + 1, 4, none⟩ = some (.slice none 0 0) := cell_of_row _ _ _ _ _ _ kc.b1
  have d5 : W'.cell? ⟨w.heap.size + 1, 5, none⟩ = some (.slice none 0 0) := cell_of_row _ _ _ _ _ _ kc.b1
  have d6 : W'.cell? ⟨w.heap.size + 1, 6, none⟩ = some (.slice none 0 0) := cell_of_row _ _ _ _ _ _ kc.b1
  have f1 : ∀ j, W'.frozen? ⟨w.heap.size + 1, j, none⟩ = false := fun j => frozen_of_row _ _ _ _ _ kc.b1
  have g0 : W'.cell? ⟨w.heap.size + 1 + 1, 0, none⟩ = some (.int .i64 0) := cell_of_row _ _ _ _ _ _ kc.b2
  have g1 : W'.cell? ⟨w.heap.size + 1 + 1, 1, none⟩ = some (.int .i64 0) := cell_of_row _ _ _ _ _ _ kc.b2
  have g2 : W'.cell? ⟨w.heap.size + 1 + 1, 2, none⟩ = some (.int .i64 0) := cell_of_row _ _ _ _ _ _ kc.b2
  have g3 : W'.cell? ⟨w.heap.size + 1 + 1, 3, none⟩ = some (.bool false) := cell_of_row _ _ _ _ _ _ kc.b2
  have g4 : W'.cell? ⟨w.heap.size + 1 + 1, 4, none⟩ = some (.slice none 0 0) := cell_of_row _ _ _ _ _ _ kc.b2
  have g5 : W'.cell? ⟨w.heap.size + 1 + 1, 5, none⟩ = some (.slice none 0 0) := cell_of_row _ _ _ _ _ _ kc.b2
  have g6 : W'.cell? ⟨w.heap.size + 1 + 1, 6, none⟩ = some (.slice none 0 0) := cell_of_row _ _ _ _ _ _ kc.b2
  have f2 : ∀ j, W'.frozen? ⟨w.heap.size + 1 + 1, j, none⟩ = false := fun j => frozen_of_row _ _ _ _ _ kc.b2
  clear hM hR kc s0 s1 s2 s3 s4 s5
  go_wp2
  refine bodyPost_ret (v := .agg #[.int .i64 0, .int .i64 0, .int .i64 0, .bool false, .slice none 0 0, .slice a n c, .slice none 0 0]) (by simp [results, Try.results13, d0, d1, d2, d3, d4, d5, d6, go_sem]) rfl ⟨a, n, c, W', rfl, HR.out, ?_⟩
  have hr : Chg (Tc w) W' W' := Chg.refl _ _
  exact ((((((((hr.setCell _ _ fun _ => .inr rfl).setCell _ _ fun _ => .inl rfl).setCell _ _ fun _ => .inl rfl).setCell _ _ fun _ => .inl rfl).setCell _ _ fun _ => .inl rfl).setCell _ _ fun _ => .inl rfl).setCell _ _ fun _ => .inl rfl).setCell _ _ fun _ => .inl rfl)



set_option maxRecDepth 100000 in
set_option maxHeartbeats 4000000 in
theorem call_vacuum {w : World} {p : Option Addr} (x : Stv) (hk : x.k = 4) {R : Int → World → Prop} (hM : Calls Try.prog 23 #[.pointer p, .int .i64 x.stamp] (Wc w x) fun e W' => ∃ (n : Int), e = .returned (.int .i64 n) ∧ Kc w W' x ∧ R n W') :
    Calls Try.prog 13 #[.pointer p, stepV x] w fun e w' => ∃ (n : Int) (W' : World), e = .returned (.agg #[.int .i64 0, .int .i64 n, .int .i64 0, .bool false, .slice none 0 0, .slice none 0 0, .slice none 0 0]) ∧ R n W' ∧ Chg (Tc w) W' w' := by
  have kc := wc_kc w x
  obtain ⟨W, hW⟩ : ∃ W, W = Wc w x := ⟨_, rfl⟩
  rw [← hW] at hM kc
  unfold Wc boxX boxT at hW
  rw [hk] at hW
  have s0 : W.cell? ⟨w.heap.size, 0, none⟩ = some (.int .i64 4) := by rw [← hk]; exact cell_of_row _ _ _ _ _ _ kc.b0
  have s1 : W.cell? ⟨w.heap.size, 1, none⟩ = some (.string x.key) := cell_of_row _ _ _ _ _ _ kc.b0
  have s2 : W.cell? ⟨w.heap.size, 2, none⟩ = some (.int .i64 x.stamp) := cell_of_row _ _ _ _ _ _ kc.b0
  have s3 : W.cell? ⟨w.heap.size, 3, none⟩ = some (.slice x.val.a x.val.p.length x.val.c) := cell_of_row _ _ _ _ _ _ kc.b0
  have s4 : W.cell? ⟨w.heap.size, 4, none⟩ = some (.bool x.dead) := cell_of_row _ _ _ _ _ _ kc.b0
  have s5 : W.cell? ⟨w.heap.size, 5, none⟩ = some (.string x.to) := cell_of_row _ _ _ _ _ _ kc.b0
  clear kc
  unfold stepV
  rw [hk]
  go_enter Try.func13, Try.ntmps13
  go_wp2_with fail
  rw [← hW]
  clear hW
  refine hM.mono ?_
  rintro e W' ⟨n, rfl, kc, hR⟩
  have HR := hide_it hR
  have d0 : W'.cell? ⟨w.heap.size + 1, 0, none⟩ = some (.int .i64 0) := cell_of_row _ _ _ _ _ _ kc.b1
  have d1 : W'.cell? ⟨w.heap.size + 1, 1, none⟩ = some (.int .i64 0) := cell_of_row _ _ _ _ _ _ kc.b1
  have d2 : W'.cell? ⟨w.heap.size + 1, 2, none⟩ = some (.int .i64 0) := cell_of_row _ _ _ _ _ _ kc.b1
  have d3 : W'.cell? ⟨w.heap.size + 1, 3, none⟩ = some (.bool false) := cell_of_row _ _ _ _ _ _ kc.b1
  have d4 : W'.cell? ⟨w.heap.size + 1, 4, none⟩ = some (.slice none 0 0) := cell_of_row _ _ _ _ _ _ kc.b1
  have d5 : W'.cell? ⟨w.heap.size + 1, 5, none⟩ = some (.slice none 0 0) := cell_of_row _ _ _ _ _ _ kc.b1
  have d6 : W'.cell? ⟨w.heap.size + 1, 6, none⟩ = some (.slice none 0 0) := cell_of_row _ _ _ _ _ _ kc.b1
  have f1 : ∀ j, W'.frozen? ⟨w.heap.size + 1, j, none⟩ = false := fun j => frozen_of_row _ _ _ _ _ kc.b1
  have g0 : W'.cell? ⟨w.heap.size + 1 + 1, 0, none⟩ = some (.int .i64 0) := cell_of_row _ _ _ _ _ _ kc.b2
  have g1 : W'.cell? ⟨w.heap.size + 1 + 1, 1, none⟩ = some (.int .i64 0) := cell_of_row _ _ _ _ _ _ kc.b2
  have g2 : W'.cell? ⟨w.heap.size + 1 + 1, 2, none⟩ = some (.int .i64 0) := cell_of_row _ _ _ _ _ _ kc.b2
  have g3 : W'.cell? ⟨w.heap.size + 1 + 1, 3, none⟩ = some (.bool false) := cell_of_row _ _ _ _ _ _ kc.b2
  have g4 : W'.cell? ⟨w.heap.size + 1 + 1, 4, none⟩ = some (.slice none 0 0) := cell_of_row _ _ _ _ _ _ kc.b2
  have g5 : W'.cell? ⟨w.heap.size + 1 + 1, 5, none⟩ = some (.slice none 0 0) := cell_of_row _ _ _ _ _ _ kc.b2
  have g6 : W'.cell? ⟨w.heap.size + 1 + 1, 6, none⟩ = some (.slice none 0 0) := cell_of_row _ _ _ _ _ _ kc.b2
  have f2 : ∀ j, W'.frozen? ⟨w.heap.size + 1 + 1, j, none⟩ = false := fun j => frozen_of_row _ _ _ _ _ kc.b2
  clear hM hR kc s0 s1 s2 s3 s4 s5
  go_wp2
  refine bodyPost_ret (v := .agg #[.int .i64 0, .int .i64 n, .int .i64 0, .bool false, .slice none 0 0, .slice none 0 0, .slice none 0 0]) (by simp [results, Try.results13, d0, d1, d2, d3, d4, d5, d6, go_sem]) rfl ⟨n, W', rfl, HR.out, ?_⟩
  have hr : Chg (Tc w) W' W' := Chg.refl _ _
  exact ((((((((hr.setCell _ _ fun _ => .inr rfl).setCell _ _ fun _ => .inl rfl).setCell _ _ fun _ => .inl rfl).setCell _ _ fun _ => .inl rfl).setCell _ _ fun _ => .inl rfl).setCell _ _ fun _ => .inl rfl).setCell _ _ fun _ => .inl rfl).setCell _ _ fun _ => .inl rfl)



set_option maxRecDepth 100000 in
set_option maxHeartbeats 4000000 in
theorem call_live {w : World} {p : Option Addr} (x : Stv) (hk : x.k = 5) {R : Int → World → Prop} (hM : Calls Try.prog 17 #[.pointer p] (Wc w x) fun e W' => ∃ (n : Int), e = .returned (.int .i64 n) ∧ Kc w W' x ∧ R n W') :
    Calls Try.prog 13 #[.pointer p, stepV x] w fun e w' => ∃ (n : Int) (W' : World), e = .returned (.agg #[.int .i64 0, .int .i64 n, .int .i64 0, .bool false, .slice none 0 0, .slice none 0 0, .slice none 0 0]) ∧ R n W' ∧ Chg (Tc w) W' w' := by
  have kc := wc_kc w x
  obtain ⟨W, hW⟩ : ∃ W, W = Wc w x := ⟨_, rfl⟩
  rw [← hW] at hM kc
  unfold Wc boxX boxT at hW
  rw [hk] at hW
  have s0 : W.cell? ⟨w.heap.size, 0, none⟩ = some (.int .i64 5) := by rw [← hk]; exact cell_of_row _ _ _ _ _ _ kc.b0
  have s1 : W.cell? ⟨w.heap.size, 1, none⟩ = some (.string x.key) := cell_of_row _ _ _ _ _ _ kc.b0
  have s2 : W.cell? ⟨w.heap.size, 2, none⟩ = some (.int .i64 x.stamp) := cell_of_row _ _ _ _ _ _ kc.b0
  have s3 : W.cell? ⟨w.heap.size, 3, none⟩ = some (.slice x.val.a x.val.p.length x.val.c) := cell_of_row _ _ _ _ _ _ kc.b0
  have s4 : W.cell? ⟨w.heap.size, 4, none⟩ = some (.bool x.dead) := cell_of_row _ _ _ _ _ _ kc.b0
  have s5 : W.cell? ⟨w.heap.size, 5, none⟩ = some (.string x.to) := cell_of_row _ _ _ _ _ _ kc.b0
  clear kc
  unfold stepV
  rw [hk]
  go_enter Try.func13, Try.ntmps13
  go_wp2_with fail
  rw [← hW]
  clear hW
  refine hM.mono ?_
  rintro e W' ⟨n, rfl, kc, hR⟩
  have HR := hide_it hR
  have d0 : W'.cell? ⟨w.heap.size + 1, 0, none⟩ = some (.int .i64 0) := cell_of_row _ _ _ _ _ _ kc.b1
  have d1 : W'.cell? ⟨w.heap.size + 1, 1, none⟩ = some (.int .i64 0) := cell_of_row _ _ _ _ _ _ kc.b1
  have d2 : W'.cell? ⟨w.heap.size + 1, 2, none⟩ = some (.int .i64 0) := cell_of_row _ _ _ _ _ _ kc.b1
  have d3 : W'.cell? ⟨w.heap.size + 1, 3, none⟩ = some (.bool false) := cell_of_row _ _ _ _ _ _ kc.b1
  have d4 : W'.cell? ⟨w.heap.size + 1, 4, none⟩ = some (.slice none 0 0) := cell_of_row _ _ _ _ _ _ kc.b1
  have d5 : W'.cell? ⟨w.heap.size + 1, 5, none⟩ = some (.slice none 0 0) := cell_of_row _ _ _ _ _ _ kc.b1
  have d6 : W'.cell? ⟨w.heap.size + 1, 6, none⟩ = some (.slice none 0 0) := cell_of_row _ _ _ _ _ _ kc.b1
  have f1 : ∀ j, W'.frozen? ⟨w.heap.size + 1, j, none⟩ = false := fun j => frozen_of_row _ _ _ _ _ kc.b1
  have g0 : W'.cell? ⟨w.heap.size + 1 + 1, 0, none⟩ = some (.int .i64 0) := cell_of_row _ _ _ _ _ _ kc.b2
  have g1 : W'.cell? ⟨w.heap.size + 1 + 1, 1, none⟩ = some (.int .i64 0) := cell_of_row _ _ _ _ _ _ kc.b2
  have g2 : W'.cell? ⟨w.heap.size + 1 + 1, 2, none⟩ = some (.int .i64 0) := cell_of_row _ _ _ _ _ _ kc.b2
  have g3 : W'.cell? ⟨w.heap.size + 1 + 1, 3, none⟩ = some (.bool false) := cell_of_row _ _ _ _ _ _ kc.b2
  have g4 : W'.cell? ⟨w.heap.size + 1 + 1, 4, none⟩ = some (.slice none 0 0) := cell_of_row _ _ _ _ _ _ kc.b2
  have g5 : W'.cell? ⟨w.heap.size + 1 + 1, 5, none⟩ = some (.slice none 0 0) := cell_of_row _ _ _ _ _ _ kc.b2
  have g6 : W'.cell? ⟨w.heap.size + 1 + 1, 6, none⟩ = some (.slice none 0 0) := cell_of_row _ _ _ _ _ _ kc.b2
  have f2 : ∀ j, W'.frozen? ⟨w.heap.size + 1 + 1, j, none⟩ = false := fun j => frozen_of_row _ _ _ _ _ kc.b2
  clear hM hR kc s0 s1 s2 s3 s4 s5
  go_wp2
  refine bodyPost_ret (v := .agg #[.int .i64 0, .int .i64 n, .int .i64 0, .bool false, .slice none 0 0, .slice none 0 0, .slice none 0 0]) (by simp [results, Try.results13, d0, d1, d2, d3, d4, d5, d6, go_sem]) rfl ⟨n, W', rfl, HR.out, ?_⟩
  have hr : Chg (Tc w) W' W' := Chg.refl _ _
  exact ((((((((hr.setCell _ _ fun _ => .inr rfl).setCell _ _ fun _ => .inl rfl).setCell _ _ fun _ => .inl rfl).setCell _ _ fun _ => .inl rfl).setCell _ _ fun _ => .inl rfl).setCell _ _ fun _ => .inl rfl).setCell _ _ fun _ => .inl rfl).setCell _ _ fun _ => .inl rfl)



set_option maxRecDepth 100000 in
set_option maxHeartbeats 4000000 in
theorem call_len {w : World} {p : Option Addr} (x : Stv) (hk : x.k = 6) {R : Int → Int → World → Prop} (hM : Calls Try.prog 22 #[.pointer p] (Wc w x) fun e W' => ∃ (n : Int) (m : Int), e = .returned (.tuple #[.int .i64 n, .int .i64 m]) ∧ Kc w W' x ∧ R n m W') :
    Calls Try.prog 13 #[.pointer p, stepV x] w fun e w' => ∃ (n : Int) (m : Int) (W' : World), e = .returned (.agg #[.int .i64 0, .int .i64 n, .int .i64 m, .bool false, .slice none 0 0, .slice none 0 0, .slice none 0 0]) ∧ R n m W' ∧ Chg (Tc w) W' w' := by
  have kc := wc_kc w x
  obtain ⟨W, hW⟩ : ∃ W, W = Wc w x := ⟨_, rfl⟩
  rw [← hW] at hM kc
  unfold Wc boxX boxT at hW
  rw [hk] at hW
  have s0 : W.cell? ⟨w.heap.size, 0, none⟩ = some (.int .i64 6) := by rw [← hk]; exact cell_of_row _ _ _ _ _ _ kc.b0
  have s1 : W.cell? ⟨w.heap.size, 1, none⟩ = some (.string x.key) := cell_of_row _ _ _ _ _ _ kc.b0
  have s2 : W.cell? ⟨w.heap.size, 2, none⟩ = some (.int .i64 x.stamp) := cell_of_row _ _ _ _ _ _ kc.b0
  have s3 : W.cell? ⟨w.heap.size, 3, none⟩ = some (.slice x.val.a x.val.p.length x.val.c) := cell_of_row _ _ _ _ _ _ kc.b0
  have s4 : W.cell? ⟨w.heap.size, 4, none⟩ = some (.bool x.dead) := cell_of_row _ _ _ _ _ _ kc.b0
  have s5 : W.cell? ⟨w.heap.size, 5, none⟩ = some (.string x.to) := cell_of_row _ _ _ _ _ _ kc.b0
  clear kc
  unfold stepV
  rw [hk]
  go_enter Try.func13, Try.ntmps13
  go_wp2_with fail
  rw [← hW]
  clear hW
  refine hM.mono ?_
  rintro e W' ⟨n, m, rfl, kc, hR⟩
  have HR := hide_it hR
  have d0 : W'.cell? ⟨w.heap.size + 1, 0, none⟩ = some (.int .i64 0) := cell_of_row _ _ _ _ _ _ kc.b1
  have d1 : W'.cell? ⟨w.heap.size + 1, 1, none⟩ = some (.int .i64 0) := cell_of_row _ _ _ _ _ _ kc.b1
  have d2 : W'.cell? ⟨w.heap.size + 1, 2, none⟩ = some (.int .i64 0) := cell_of_row _ _ _ _ _ _ kc.b1
  have d3 : W'.cell? ⟨w.heap.size + 1, 3, none⟩ = some (.bool false) := cell_of_row _ _ _ _ _ _ kc.b1
  have d4 : W'.cell? ⟨w.heap.size + 1, 4, none⟩ = some (.slice none 0 0) := cell_of_row _ _ _ _ _ _ kc.b1
  have d5 : W'.cell? ⟨w.heap.size + 1, 5, none⟩ = some (.slice none 0 0) := cell_of_row _ _ _ _ _ _ kc.b1
  have d6 : W'.cell? ⟨w.heap.size + 1, 6, none⟩ = some (.slice none 0 0) := cell_of_row _ _ _ _ _ _ kc.b1
  have f1 : ∀ j, W'.frozen? ⟨w.heap.size + 1, j, none⟩ = false := fun j => frozen_of_row _ _ _ _ _ kc.b1
  have g0 : W'.cell? ⟨w.heap.size + 1 + 1, 0, none⟩ = some (.int .i64 0) := cell_of_row _ _ _ _ _ _ kc.b2
  have g1 : W'.cell? ⟨w.heap.size + 1 + 1, 1, none⟩ = some (.int .i64 0) := cell_of_row _ _ _ _ _ _ kc.b2
  have g2 : W'.cell? ⟨w.heap.size + 1 + 1, 2, none⟩ = some (.int .i64 0) := cell_of_row _ _ _ _ _ _ kc.b2
  have g3 : W'.cell? ⟨w.heap.size + 1 + 1, 3, none⟩ = some (.bool false) := cell_of_row _ _ _ _ _ _ kc.b2
  have g4 : W'.cell? ⟨w.heap.size + 1 + 1, 4, none⟩ = some (.slice none 0 0) := cell_of_row _ _ _ _ _ _ kc.b2
  have g5 : W'.cell? ⟨w.heap.size + 1 + 1, 5, none⟩ = some (.slice none 0 0) := cell_of_row _ _ _ _ _ _ kc.b2
  have g6 : W'.cell? ⟨w.heap.size + 1 + 1, 6, none⟩ = some (.slice none 0 0) := cell_of_row _ _ _ _ _ _ kc.b2
  have f2 : ∀ j, W'.frozen? ⟨w.heap.size + 1 + 1, j, none⟩ = false := fun j => frozen_of_row _ _ _ _ _ kc.b2
  clear hM hR kc s0 s1 s2 s3 s4 s5
  go_wp2
  refine bodyPost_ret (v := .agg #[.int .i64 0, .int .i64 n, .int .i64 m, .bool false, .slice none 0 0, .slice none 0 0, .slice none 0 0]) (by simp [results, Try.results13, d0, d1, d2, d3, d4, d5, d6, go_sem]) rfl ⟨n, m, W', rfl, HR.out, ?_⟩
  have hr : Chg (Tc w) W' W' := Chg.refl _ _
  exact (((((((((hr.setCell _ _ fun _ => .inr rfl).setCell _ _ fun _ => .inr rfl).setCell _ _ fun _ => .inl rfl).setCell _ _ fun _ => .inl rfl).setCell _ _ fun _ => .inl rfl).setCell _ _ fun _ => .inl rfl).setCell _ _ fun _ => .inl rfl).setCell _ _ fun _ => .inl rfl).setCell _ _ fun _ => .inl rfl)



set_option maxRecDepth 100000 in
set_option maxHeartbeats 4000000 in
theorem call_versions {w : World} {p : Option Addr} (x : Stv) (hk : x.k = 7) {R : Option Addr → Nat → Nat → World → Prop} (hM : Calls Try.prog 15 #[.pointer p] (Wc w x) fun e W' => ∃ (a : Option Addr) (n : Nat) (c : Nat), e = .returned (.slice a n c) ∧ Kc w W' x ∧ R a n c W') :
    Calls Try.prog 13 #[.pointer p, stepV x] w fun e w' => ∃ (a : Option Addr) (n : Nat) (c : Nat) (W' : World), e = .returned (.agg #[.int .i64 0, .int .i64 0, .int .i64 0, .bool false, .slice none 0 0, .slice none 0 0, .slice a n c]) ∧ R a n c W' ∧ Chg (Tc w) W' w' := by
  have kc := wc_kc w x
  obtain ⟨W, hW⟩ : ∃ W, W = Wc w x := ⟨_, rfl⟩
  rw [← hW] at hM kc
  unfold Wc boxX boxT at hW
  rw [hk] at hW
  have s0 : W.cell? ⟨w.heap.size, 0, none⟩ = some (.int .i64 7) := by rw [← hk]; exact cell_of_row _ _ _ _ _ _ kc.b0
  have s1 : W.cell? ⟨w.heap.size, 1, none⟩ = some (.string x.key) := cell_of_row _ _ _ _ _ _ kc.b0
  have s2 : W.cell? ⟨w.heap.size, 2, none⟩ = some (.int .i64 x.stamp) := cell_of_row _ _ _ _ _ _ kc.b0
  have s3 : W.cell? ⟨w.heap.size, 3, none⟩ = some (.slice x.val.a x.val.p.length x.val.c) := cell_of_row _ _ _ _ _ _ kc.b0
  have s4 : W.cell? ⟨w.heap.size, 4, none⟩ = some (.bool x.dead) := cell_of_row _ _ _ _ _ _ kc.b0
  have s5 : W.cell? ⟨w.heap.size, 5, none⟩ = some (.string x.to) := cell_of_row _ _ _ _ _ _ kc.b0
  clear kc
  unfold stepV
  rw [hk]
  go_enter Try.func13, Try.ntmps13
  go_wp2_with fail
  rw [← hW]
  clear hW
  refine hM.mono ?_
  rintro e W' ⟨a, n, c, rfl, kc, hR⟩
  have HR := hide_it hR
  have d0 : W'.cell? ⟨w.heap.size + 1, 0, none⟩ = some (.int .i64 0) := cell_of_row _ _ _ _ _ _ kc.b1
  have d1 : W'.cell? ⟨w.heap.size + 1, 1, none⟩ = some (.int .i64 0) := cell_of_row _ _ _ _ _ _ kc.b1
  have d2 : W'.cell? ⟨w.heap.size + 1, 2, none⟩ = some (.int .i64 0) := cell_of_row _ _ _ _ _ _ kc.b1
  have d3 : W'.cell? ⟨w.heap.size + 1, 3, none⟩ = some (.bool false) := cell_of_row _ _ _ _ _ _ kc.b1
  have d4 : W'.cell? ⟨w.heap.size + 1, 4, none⟩ = some (.slice none 0 0) := cell_of_row _ _ _ _ _ _ kc.b1
  have d5 : W'.cell? ⟨w.heap.size + 1, 5, none⟩ = some (.slice none 0 0) := cell_of_row _ _ _ _ _ _ kc.b1
  have d6 : W'.cell? ⟨w.heap.size + 1, 6, none⟩ = some (.slice none 0 0) := cell_of_row _ _ _ _ _ _ kc.b1
  have f1 : ∀ j, W'.frozen? ⟨w.heap.size + 1, j, none⟩ = false := fun j => frozen_of_row _ _ _ _ _ kc.b1
  have g0 : W'.cell? ⟨w.heap.size + 1 + 1, 0, none⟩ = some (.int .i64 0) := cell_of_row _ _ _ _ _ _ kc.b2
  have g1 : W'.cell? ⟨w.heap.size + 1 + 1, 1, none⟩ = some (.int .i64 0) := cell_of_row _ _ _ _ _ _ kc.b2
  have g2 : W'.cell? ⟨w.heap.size + 1 + 1, 2, none⟩ = some (.int .i64 0) := cell_of_row _ _ _ _ _ _ kc.b2
  have g3 : W'.cell? ⟨w.heap.size + 1 + 1, 3, none⟩ = some (.bool false) := cell_of_row _ _ _ _ _ _ kc.b2
  have g4 : W'.cell? ⟨w.heap.size + 1 + 1, 4, none⟩ = some (.slice none 0 0) := cell_of_row _ _ _ _ _ _ kc.b2
  have g5 : W'.cell? ⟨w.heap.size + 1 + 1, 5, none⟩ = some (.slice none 0 0) := cell_of_row _ _ _ _ _ _ kc.b2
  have g6 : W'.cell? ⟨w.heap.size + 1 + 1, 6, none⟩ = some (.slice none 0 0) := cell_of_row _ _ _ _ _ _ kc.b2
  have f2 : ∀ j, W'.frozen? ⟨w.heap.size + 1 + 1, j, none⟩ = false := fun j => frozen_of_row _ _ _ _ _ kc.b2
  clear hM hR kc s0 s1 s2 s3 s4 s5
  go_wp2
  refine bodyPost_ret (v := .agg #[.int .i64 0, .int .i64 0, .int .i64 0, .bool false, .slice none 0 0, .slice none 0 0, .slice a n c]) (by simp [results, Try.results13, d0, d1, d2, d3, d4, d5, d6, go_sem]) rfl ⟨a, n, c, W', rfl, HR.out, ?_⟩
  have hr : Chg (Tc w) W' W' := Chg.refl _ _
  exact ((((((((hr.setCell _ _ fun _ => .inr rfl).setCell _ _ fun _ => .inl rfl).setCell _ _ fun _ => .inl rfl).setCell _ _ fun _ => .inl rfl).setCell _ _ fun _ => .inl rfl).setCell _ _ fun _ => .inl rfl).setCell _ _ fun _ => .inl rfl).setCell _ _ fun _ => .inl rfl)


end Go.Proofs.Ythaknohnccmfoaa
