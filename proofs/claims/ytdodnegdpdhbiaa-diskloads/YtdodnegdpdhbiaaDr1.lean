/- The document's disk: a value over a row of areas. -/
import Derived.Test.YtdodnegdpdhbiaaBn8
namespace Go.Proofs.Ytdodnegdpdhbiaa
open Go.RowKit

/-- The seven cells of an area of the document's disk, from place o on of block b. -/
structure Sev (w : World) (b o : Nat) (x : Pt) (ra : Option Addr) (rc : Nat) : Prop where
  c0 : w.cell? ⟨b, o, none⟩ = some (.int .i64 (x.B : Int))
  c1 : w.cell? ⟨b, o + 1, none⟩ = some (.int .i64 (x.k : Int))
  c2 : w.cell? ⟨b, o + 2, none⟩ = some (.int .i64 (x.c : Int))
  c3 : w.cell? ⟨b, o + 3, none⟩ = some (.slice ra x.bs.length rc)
  c4 : w.cell? ⟨b, o + 4, none⟩ = some (.int .i64 x.fd)
  c5 : w.cell? ⟨b, o + 5, none⟩ = some (.int .i64 x.fk)
  c6 : w.cell? ⟨b, o + 6, none⟩ = some (.int .u8 (x.ft : Int))
/-- What the program may count on of an area's numbers. -/
structure PtOk (x : Pt) : Prop where
  le : x.k ≤ x.bs.length
  all : All8 x.bs
  len : x.bs.length ≤ 211106232532800
  room : x.B + x.bs.length ≤ 9223372036854775807
  cnt : x.c ≤ 4611686018427387904
  ft : x.ft < 256
/-- The document's disk: n areas in a row, which are as s says; all of it from block lo on, and in no block of F. -/
structure Dd (w : World) (F : Nat → Prop) (a : Option Addr) (n : Nat) (s : Nat → Pt) : Prop where
  row : ∃ b o, a = some ⟨b, o, none⟩ ∧ b < w.heap.size ∧ ¬ F b ∧ ∀ i, i < n → ∃ ra rc, Sev w b (o + i * 7) (s i) ra rc ∧ RowB w ra (s i).bs ∧ ((s i).bs.length = 0 ∨ farA F ra) ∧ (s i).bs.length ≤ rc ∧ (ra = none → (s i).bs.length = 0 ∧ rc = 0)
  few : 1 ≤ n ∧ n ≤ 16
  ok : ∀ i, i < n → PtOk (s i)
section
variable {w w' : World} {F : Nat → Prop} {a : Option Addr} {n : Nat} {s : Nat → Pt}
theorem Sev.keep {b o : Nat} {x : Pt} {ra : Option Addr} {rc : Nat} (h : Sev w b o x ra rc) (hb : w'.heap[b]? = w.heap[b]?) : Sev w' b o x ra rc :=
  ⟨(World.cell?_of_block (w := w) (a := ⟨b, o, none⟩) hb).trans h.c0, (World.cell?_of_block (w := w) (a := ⟨b, o + 1, none⟩) hb).trans h.c1, (World.cell?_of_block (w := w) (a := ⟨b, o + 2, none⟩) hb).trans h.c2, (World.cell?_of_block (w := w) (a := ⟨b, o + 3, none⟩) hb).trans h.c3, (World.cell?_of_block (w := w) (a := ⟨b, o + 4, none⟩) hb).trans h.c4, (World.cell?_of_block (w := w) (a := ⟨b, o + 5, none⟩) hb).trans h.c5, (World.cell?_of_block (w := w) (a := ⟨b, o + 6, none⟩) hb).trans h.c6⟩
theorem Dd.chg (h : Dd w F a n s) (hc : Chg F w w') : Dd w' F a n s := by
  obtain ⟨b, o, e, hl, hF, hr⟩ := h.row
  refine ⟨⟨b, o, e, Nat.lt_of_lt_of_le hl hc.size, hF, fun i hi => ?_⟩, h.few, h.ok⟩
  obtain ⟨ra, rc, h1, h2, h3, h4⟩ := hr i hi
  refine ⟨ra, rc, h1.keep (hc.block b hl hF), ?_, h3, h4⟩
  rcases h3 with h3 | h3
  · exact .inl h3
  · exact h2.keep hc.size fun ad e hl => hc.block _ hl (h3 ad e)
theorem Dd.below (h : Dd w F a n s) (hb : Below w.heap.size w w') : Dd w' F a n s := h.chg (Chg.new hb)
/-- .. where the other disk's blocks grew by what is new. -/
theorem Dd.grow (h : Dd w F a n s) : Dd w (fun b => F b ∨ w.heap.size ≤ b) a n s := by
  obtain ⟨b, o, e, hl, hF, hr⟩ := h.row
  refine ⟨⟨b, o, e, hl, fun hx => ?_, fun i hi => ?_⟩, h.few, h.ok⟩
  · rcases hx with hx | hx
    · exact hF hx
    · omega
  · obtain ⟨ra, rc, h1, h2, h3, h4⟩ := hr i hi
    refine ⟨ra, rc, h1, h2, ?_, h4⟩
    rcases h2 with h2 | ⟨b2, o2, e2, h5, _⟩
    · exact .inl h2
    · refine h3.imp (fun e => e) fun h3 ad e hx => ?_
      rcases hx with hx | hx
      · exact h3 ad e hx
      · rw [e2] at e; cases e; simp only at hx; omega
end

/-- A document's disk as a value. -/
abbrev valD (a : Option Addr) (n c : Nat) (am : Bool) : Value := .agg #[.slice a n c, .bool am]

section
variable {w : World} {F : Nat → Prop} {a : Option Addr} {n c : Nat} {am : Bool} {s : Nat → Pt}
set_option maxRecDepth 100000 in
set_option maxHeartbeats 400000 in
theorem has_any (I : Int) (w : World) : Calls Try.prog 82 #[valD a n c am, .int .i64 I] w fun e w' => e = .returned (.bool (inD n I)) ∧ Below w.heap.size w w' := by
  have hb : Below w.heap.size w (w.alloc (.cells #[.slice a n c, .bool am] 45)) := (Below.refl _ _).alloc (Nat.le_refl _) _
  by_cases h1 : 0 ≤ I
  · by_cases h2 : I < (n : Int)
    · rw [show inD n I = true by unfold inD; simp; omega]
      go_enter Try.func82, Try.ntmps82
      go_wp2_with fail
      go_ret
      exact ⟨rfl, hb⟩
    · rw [show inD n I = false by unfold inD; simp; omega]
      go_enter Try.func82, Try.ntmps82
      go_wp2_with fail
      go_ret
      exact ⟨rfl, hb⟩
  · rw [show inD n I = false by unfold inD; simp; omega]
    go_enter Try.func82, Try.ntmps82
    go_wp2_with fail
    go_ret
    exact ⟨rfl, hb⟩

/-- What the walk wants of the box that the disk is laid into. -/
theorem boxD (w : World) (a : Option Addr) (n c : Nat) (am : Bool) {W : World} (hb : Below (w.heap.size + 1) (w.alloc (.cells #[.slice a n c, .bool am] 45)) W) : W.cell? ⟨w.heap.size, 0, none⟩ = some (.slice a n c) ∧ W.cell? ⟨w.heap.size, 1, none⟩ = some (.bool am) := by
  have h := heap_alloc_new w (.cells #[.slice a n c, .bool am] 45)
  have h2 := (hb.block w.heap.size (by omega)).trans h
  exact ⟨cell_of_row _ _ _ _ _ _ h2, cell_of_row _ _ _ _ _ _ h2⟩

set_option maxRecDepth 100000 in
set_option maxHeartbeats 800000 in
theorem doneR (h : Dd w F a n s) (I : Int) : Calls Try.prog 58 #[valD a n c am, .int .i64 I] w fun e w' => e = .returned (.int .i64 (doneA n s I)) ∧ Below w.heap.size w w' := by
  have hb0 : Below w.heap.size w (w.alloc (.cells #[.slice a n c, .bool am] 45)) := (Below.refl _ _).alloc (Nat.le_refl _) _
  have hh := has_any (a := a) (n := n) (c := c) (am := am) I (w.alloc (.cells #[.slice a n c, .bool am] 45))
  unfold doneA
  by_cases hi : inD n I = true
  · rw [if_pos hi]
    rw [hi] at hh
    obtain ⟨i1, i2⟩ := inD_iff hi
    have x1 : 0 ≤ I := by omega
    have x2 : I < (n : Int) := by omega
    have hd := h
    clear h i1 hi
    go_enter Try.func58, Try.ntmps58
    go_wp2_with fail
    refine hh.mono ?_
    rintro e w1 ⟨rfl, hb1⟩
    have hbw := hb0.trans (hb1.mono hb0.size)
    obtain ⟨e0, e1⟩ := boxD w a n c am (by simpa using hb1)
    obtain ⟨b, o, rfl, hbl, _, hr⟩ := (hd.below hbw).row
    obtain ⟨ra, rc, hv, _⟩ := hr I.toNat i2
    have c2 := hv.c2
    clear hh hr hv hd
    go_wp2_with fail
    go_ret
    exact ⟨rfl, hbw⟩
  · rw [if_neg hi]
    have hi' : inD n I = false := by simpa using hi
    rw [hi'] at hh
    clear h
    go_enter Try.func58, Try.ntmps58
    go_wp2_with fail
    refine hh.mono ?_
    rintro e w1 ⟨rfl, hb1⟩
    have hbw := hb0.trans (hb1.mono hb0.size)
    clear hh
    go_wp2_with fail
    go_ret
    exact ⟨rfl, hbw⟩
end

end Go.Proofs.Ytdodnegdpdhbiaa
