/- A reading of a reader, at each kind. -/
import Derived.Test.YtfhinodieghklabRd4
namespace Go.Proofs.Ytfhinodieghklab
open Go.RowKit

/-- What comes of a reading: the answer and the reader behind it; of what was there before the reader's block alone has turned. -/
def Red {A : Type} (val : A → Value) (zero : Value) (p : Nat) (bs : List Nat) (w : World) (r : Except Nat (A × List Nat)) (e : Ending) (w' : World) : Prop :=
  w.grownBy w' (some p) ∧
  match r with
  | .error c => e = .returned zero ∧ Rdr w' p bs c
  | .ok (x, t) => e = .returned (val x) ∧ Rdr w' p t 0

theorem Rdr.cell1 {w : World} {p : Nat} {bs : List Nat} {f : Nat} (h : Rdr w p bs f) : w.cell? ⟨p, 1, none⟩ = some (.int .i64 (f : Int)) ∧ w.frozen? ⟨p, 1, none⟩ = false ∧ w.frozen? ⟨p, 0, none⟩ = false ∧ ∃ v, w.cell? ⟨p, 0, none⟩ = some v := by
  obtain ⟨_, a, cap, hh, _⟩ := h
  exact ⟨by rw [cell_of_row _ _ _ _ _ _ hh]; rfl, frozen_of_row w p 1 _ _ hh, frozen_of_row w p 0 _ _ hh, _, by rw [cell_of_row _ _ _ _ _ _ hh]; rfl⟩
/-- A row of bytes does not lie in the reader's block. -/
theorem RowB.not_rdr {w : World} {p : Nat} {a a' : Option Addr} {zs : List Nat} {n cap : Nat} {f : Nat} (hr : RowB w a zs) (hh : w.heap[p]? = some (.cells #[.slice a' n cap, .int .i64 (f : Int)] 64 (0, 0))) : zs.length = 0 ∨ ∃ b o, a = some ⟨b, o, none⟩ ∧ b ≠ p ∧ b < w.heap.size ∧ ∀ i, i < zs.length → w.cell? ⟨b, o + i, none⟩ = some (.int .u8 ((at0 zs i : Nat) : Int)) := by
  rcases hr with h | ⟨b, o, rfl, hlt, hc⟩
  · exact .inl h
  · by_cases h0 : zs.length = 0
    · exact .inl h0
    · refine .inr ⟨b, o, rfl, fun e => ?_, hlt, hc⟩
      subst e
      have h1 := hc 0 (by omega)
      rw [cell_of_row _ _ _ _ _ _ hh] at h1
      match o, h1 with
      | 0, h1 => simp at h1
      | 1, h1 => simp at h1
      | o + 2, h1 => simp at h1
theorem RowB.set_far {w : World} {p : Nat} {a a' : Option Addr} {zs : List Nat} {n cap : Nat} {f : Nat} (hr : RowB w a zs) (hh : w.heap[p]? = some (.cells #[.slice a' n cap, .int .i64 (f : Int)] 64 (0, 0))) (i : Nat) (v : Value) : RowB (w.setCell ⟨p, i, none⟩ v) a zs := by
  rcases hr.not_rdr hh with h | ⟨b, o, rfl, hne, hlt, hc⟩
  · exact .inl h
  · refine .inr ⟨b, o, rfl, by simpa using hlt, fun j hj => ?_⟩
    rw [World.cell?_of_block (w := w) (Below.heap_setCell w ⟨p, i, none⟩ v b hne)]
    exact hc j hj
theorem Rdr.setFault {w : World} {p : Nat} {bs : List Nat} {f : Nat} (h : Rdr w p bs f) (c : Nat) : Rdr (w.setCell ⟨p, 1, none⟩ (.int .i64 (c : Int))) p bs c := by
  obtain ⟨hp, a, cap, hh, hr, h1, h2, h3⟩ := h
  refine ⟨by simpa using hp, a, cap, ?_, hr.set_far hh _ _, h1, h2, h3⟩
  rw [heap_setCell_same w p 1 _ _ _ hh]; rfl
theorem Rdr.setRest {w : World} {p : Nat} {bs : List Nat} {f : Nat} (h : Rdr w p bs f) {a : Option Addr} {cap : Nat} {t : List Nat} (hr : RowB w a t) (h1 : t.length ≤ cap) (h2 : cap ≤ maxLen) (h3 : a = none → t.length = 0 ∧ cap = 0) : Rdr (w.setCell ⟨p, 0, none⟩ (.slice a t.length cap)) p t f := by
  obtain ⟨hp, a', cap', hh, _⟩ := h
  refine ⟨by simpa using hp, a, cap, ?_, hr.set_far hh _ _, h1, h2, h3⟩
  rw [heap_setCell_same w p 0 _ _ _ hh]; rfl
theorem grown_of_below {w w' : World} (h : Below w.heap.size w w') (p : Nat) : w.grownBy w' (some p) := ⟨h.os, h.tape, h.output, h.size, fun k hk _ => h.block k hk⟩
theorem grown_setCell {w w' : World} {g : Nat} (h : w.grownBy w' (some g)) (i : Nat) (v : Value) : w.grownBy (w'.setCell ⟨g, i, none⟩ v) (some g) :=
  ⟨h.os, h.tape, h.output, by simpa using h.size, fun k hk hne => by
    rw [Below.heap_setCell _ _ _ _ (fun e => hne (by rw [e]))]; exact h.block k hk hne⟩


set_option maxRecDepth 100000 in
set_option maxHeartbeats 1000000 in
theorem reading8 (p : Nat) (bs : List Nat) (w : World) (R : Except Nat (Nat × List Nat)) (hr : Rdr w p bs 0)
    (htake : ∀ (w2 : World) (g : Nat), Below w.heap.size w w2 → Cur w2 (w.heap.size + 1) g bs → Calls Try.prog 57 #[.pointer (some ⟨g, 0, none⟩)] w2 fun e w' => Took (fun f => .int .u8 ((f : Nat) : Int)) (w.heap.size + 1) g w2 R e w') :
    Calls Try.prog 56 #[.pointer (some ⟨p, 0, none⟩), .func (.func 57) #[] #[]] w fun e w' => Red (fun f => .int .u8 ((f : Nat) : Int)) (.int .u8 0) p bs w R e w' := by
  have hmf : ∀ (fn : Fn) (first cap : Array Value) (w : World), (Instr.makeFunc fn first cap).run Try.prog w = .ok (.func fn first cap) w := fun _ _ _ _ => rfl
  have hb1 : Below w.heap.size w (w.alloc (.cells #[.pointer (some ⟨p, 0, none⟩)] 28)) := (Below.refl _ _).alloc (Nat.le_refl _) _
  have hp0 := hr.1
  have hr1 := hr.below hb1
  have hf1 := fault_any p bs 0 _ hr1
  have hr2 := hr1.below ((Below.refl _ _).alloc (Nat.le_refl _) (.cells #[.pointer (some ⟨p, 0, none⟩)] 28))
  have hrr := hr
  obtain ⟨_, a, cap, hh, hrow, hl, hm, hnil⟩ := hr
  have hc0 : (w.alloc (.cells #[.pointer (some ⟨p, 0, none⟩)] 28)).cell? ⟨p, 0, none⟩ = some (.slice a bs.length cap) := by rw [cell_of_row _ _ _ _ _ _ (by rw [hb1.block p hp0]; exact hh)]; rfl
  have hcb : (w.alloc (.cells #[.pointer (some ⟨p, 0, none⟩)] 28)).cell? ⟨w.heap.size, 0, none⟩ = some (.pointer (some ⟨p, 0, none⟩)) := by rw [cell_of_row _ _ _ _ _ _ (heap_alloc_new w _)]; rfl
  have hb2 : Below w.heap.size w ((w.alloc (.cells #[.pointer (some ⟨p, 0, none⟩)] 28)).alloc (.cells #[.slice a bs.length cap] 90)) := hb1.alloc hb1.size _
  have hcur2 : Cur ((w.alloc (.cells #[.pointer (some ⟨p, 0, none⟩)] 28)).alloc (.cells #[.slice a bs.length cap] 90)) (w.heap.size + 1) (w.heap.size + 1) bs := by
    refine ⟨Nat.le_refl _, a, cap, ?_, ?_, hl, hm, hnil⟩
    · have e := heap_alloc_new (w.alloc (.cells #[.pointer (some ⟨p, 0, none⟩)] 28)) (.cells #[.slice a bs.length cap] 90)
      simp only [World.size_alloc] at e
      exact e
    · rcases hrow with h | ⟨b, o, e, hlt, hc⟩
      · exact .inl h
      · exact .inr ⟨b, o, e, by omega, Nat.lt_of_lt_of_le hlt hb2.size, fun i hi => by rw [hb2.cell (p := ⟨b, o + i, none⟩) hlt]; exact hc i hi⟩
  have ht := htake _ (w.heap.size + 1) hb2 hcur2
  have hcb2 : ((w.alloc (.cells #[.pointer (some ⟨p, 0, none⟩)] 28)).alloc (.cells #[.slice a bs.length cap] 90)).cell? ⟨w.heap.size, 0, none⟩ = some (.pointer (some ⟨p, 0, none⟩)) := by
    rw [World.cell?_of_block (w := w.alloc (.cells #[.pointer (some ⟨p, 0, none⟩)] 28)) (Below.heap_alloc _ _ _ (by simp))]; exact hcb
  have HCB2 := hide_it hcb2
  clear hcur2 htake hrow hh hcb2
  go_enter_defers Try.func56, Try.ntmps56
  go_wp2_with (go_at_call 12; refine hf1.mono ?_; rintro e w' ⟨rfl, hq⟩; have hq2 := hq.symm; subst hq2; clear hq)
  refine ht.mono ?_
  intro e w3 hk
  clear ht hf1 hc0 hcb hr1 hr2
  cases R with
  | error c =>
    obtain ⟨rfl, hb3⟩ := hk
    have hbw := hb2.trans (hb3.mono (by omega))
    have hr3 := hrr.below hbw
    obtain ⟨q1, q2, q3, _⟩ := hr3.cell1
    have hcb3 : w3.cell? ⟨w.heap.size, 0, none⟩ = some (.pointer (some ⟨p, 0, none⟩)) := (hb3.cell (p := ⟨w.heap.size, 0, none⟩) (by simp)).trans HCB2.out
    go_wp2_with fail
    refine leaves_cons (f := 76) (args := #[.pointer (some ⟨w.heap.size, 0, none⟩)]) (by simp) (by simp [go_sem]) ?_
    refine (catchP8 w.heap.size p 0 (c : Int) [] _ hcb3 q1 q2).mono ?_
    rintro e u' w'' ⟨rfl, rfl, rfl⟩
    simp [Leaves, settle, results, Try.results56, go_sem]
    exact ⟨grown_setCell (grown_of_below hbw p) _ _, rfl, hr3.setFault c⟩
  | ok x =>
    obtain ⟨x, t⟩ := x
    obtain ⟨rfl, hcur, hb3⟩ := hk
    have hbw := hb2.trans (hb3.mono (by omega))
    have hr3 := hrr.below hbw
    obtain ⟨q1, q2, q3, v0, q4⟩ := hr3.cell1
    have hcb3 : w3.cell? ⟨w.heap.size, 0, none⟩ = some (.pointer (some ⟨p, 0, none⟩)) := (hb3.cell (p := ⟨w.heap.size, 0, none⟩) (by simp)).trans HCB2.out
    obtain ⟨_, a', cap', hh', hrow', hl', hm', hnil'⟩ := hcur
    have hc3 : w3.cell? ⟨w.heap.size + 1, 0, none⟩ = some (.slice a' t.length cap') := by rw [cell_of_row _ _ _ _ _ _ hh']; rfl
    have HR := hide_it hrow'.row
    clear hh' hrow'
    go_wp2_with fail
    refine leaves_cons (f := 76) (args := #[.pointer (some ⟨w.heap.size, 0, none⟩)]) (by simp) (by simp [go_sem]) ?_
    refine (catchI8 w.heap.size _).mono ?_
    rintro e u' w'' ⟨rfl, rfl, rfl⟩
    simp [Leaves, settle, results, Try.results56, go_sem]
    exact ⟨grown_setCell (grown_of_below hbw p) _ _, rfl, hr3.setRest HR.out hl' hm' hnil'⟩

set_option maxRecDepth 100000 in
set_option maxHeartbeats 1000000 in
theorem reading16 (p : Nat) (bs : List Nat) (w : World) (R : Except Nat (Nat × List Nat)) (hr : Rdr w p bs 0)
    (htake : ∀ (w2 : World) (g : Nat), Below w.heap.size w w2 → Cur w2 (w.heap.size + 1) g bs → Calls Try.prog 62 #[.pointer (some ⟨g, 0, none⟩)] w2 fun e w' => Took (fun f => .int .u16 ((f : Nat) : Int)) (w.heap.size + 1) g w2 R e w') :
    Calls Try.prog 61 #[.pointer (some ⟨p, 0, none⟩), .func (.func 62) #[] #[]] w fun e w' => Red (fun f => .int .u16 ((f : Nat) : Int)) (.int .u16 0) p bs w R e w' := by
  have hmf : ∀ (fn : Fn) (first cap : Array Value) (w : World), (Instr.makeFunc fn first cap).run Try.prog w = .ok (.func fn first cap) w := fun _ _ _ _ => rfl
  have hb1 : Below w.heap.size w (w.alloc (.cells #[.pointer (some ⟨p, 0, none⟩)] 28)) := (Below.refl _ _).alloc (Nat.le_refl _) _
  have hp0 := hr.1
  have hr1 := hr.below hb1
  have hf1 := fault_any p bs 0 _ hr1
  have hr2 := hr1.below ((Below.refl _ _).alloc (Nat.le_refl _) (.cells #[.pointer (some ⟨p, 0, none⟩)] 28))
  have hrr := hr
  obtain ⟨_, a, cap, hh, hrow, hl, hm, hnil⟩ := hr
  have hc0 : (w.alloc (.cells #[.pointer (some ⟨p, 0, none⟩)] 28)).cell? ⟨p, 0, none⟩ = some (.slice a bs.length cap) := by rw [cell_of_row _ _ _ _ _ _ (by rw [hb1.block p hp0]; exact hh)]; rfl
  have hcb : (w.alloc (.cells #[.pointer (some ⟨p, 0, none⟩)] 28)).cell? ⟨w.heap.size, 0, none⟩ = some (.pointer (some ⟨p, 0, none⟩)) := by rw [cell_of_row _ _ _ _ _ _ (heap_alloc_new w _)]; rfl
  have hb2 : Below w.heap.size w ((w.alloc (.cells #[.pointer (some ⟨p, 0, none⟩)] 28)).alloc (.cells #[.slice a bs.length cap] 90)) := hb1.alloc hb1.size _
  have hcur2 : Cur ((w.alloc (.cells #[.pointer (some ⟨p, 0, none⟩)] 28)).alloc (.cells #[.slice a bs.length cap] 90)) (w.heap.size + 1) (w.heap.size + 1) bs := by
    refine ⟨Nat.le_refl _, a, cap, ?_, ?_, hl, hm, hnil⟩
    · have e := heap_alloc_new (w.alloc (.cells #[.pointer (some ⟨p, 0, none⟩)] 28)) (.cells #[.slice a bs.length cap] 90)
      simp only [World.size_alloc] at e
      exact e
    · rcases hrow with h | ⟨b, o, e, hlt, hc⟩
      · exact .inl h
      · exact .inr ⟨b, o, e, by omega, Nat.lt_of_lt_of_le hlt hb2.size, fun i hi => by rw [hb2.cell (p := ⟨b, o + i, none⟩) hlt]; exact hc i hi⟩
  have ht := htake _ (w.heap.size + 1) hb2 hcur2
  have hcb2 : ((w.alloc (.cells #[.pointer (some ⟨p, 0, none⟩)] 28)).alloc (.cells #[.slice a bs.length cap] 90)).cell? ⟨w.heap.size, 0, none⟩ = some (.pointer (some ⟨p, 0, none⟩)) := by
    rw [World.cell?_of_block (w := w.alloc (.cells #[.pointer (some ⟨p, 0, none⟩)] 28)) (Below.heap_alloc _ _ _ (by simp))]; exact hcb
  have HCB2 := hide_it hcb2
  clear hcur2 htake hrow hh hcb2
  go_enter_defers Try.func61, Try.ntmps61
  go_wp2_with (go_at_call 12; refine hf1.mono ?_; rintro e w' ⟨rfl, hq⟩; have hq2 := hq.symm; subst hq2; clear hq)
  refine ht.mono ?_
  intro e w3 hk
  clear ht hf1 hc0 hcb hr1 hr2
  cases R with
  | error c =>
    obtain ⟨rfl, hb3⟩ := hk
    have hbw := hb2.trans (hb3.mono (by omega))
    have hr3 := hrr.below hbw
    obtain ⟨q1, q2, q3, _⟩ := hr3.cell1
    have hcb3 : w3.cell? ⟨w.heap.size, 0, none⟩ = some (.pointer (some ⟨p, 0, none⟩)) := (hb3.cell (p := ⟨w.heap.size, 0, none⟩) (by simp)).trans HCB2.out
    go_wp2_with fail
    refine leaves_cons (f := 82) (args := #[.pointer (some ⟨w.heap.size, 0, none⟩)]) (by simp) (by simp [go_sem]) ?_
    refine (catchP16 w.heap.size p 0 (c : Int) [] _ hcb3 q1 q2).mono ?_
    rintro e u' w'' ⟨rfl, rfl, rfl⟩
    simp [Leaves, settle, results, Try.results61, go_sem]
    exact ⟨grown_setCell (grown_of_below hbw p) _ _, rfl, hr3.setFault c⟩
  | ok x =>
    obtain ⟨x, t⟩ := x
    obtain ⟨rfl, hcur, hb3⟩ := hk
    have hbw := hb2.trans (hb3.mono (by omega))
    have hr3 := hrr.below hbw
    obtain ⟨q1, q2, q3, v0, q4⟩ := hr3.cell1
    have hcb3 : w3.cell? ⟨w.heap.size, 0, none⟩ = some (.pointer (some ⟨p, 0, none⟩)) := (hb3.cell (p := ⟨w.heap.size, 0, none⟩) (by simp)).trans HCB2.out
    obtain ⟨_, a', cap', hh', hrow', hl', hm', hnil'⟩ := hcur
    have hc3 : w3.cell? ⟨w.heap.size + 1, 0, none⟩ = some (.slice a' t.length cap') := by rw [cell_of_row _ _ _ _ _ _ hh']; rfl
    have HR := hide_it hrow'.row
    clear hh' hrow'
    go_wp2_with fail
    refine leaves_cons (f := 82) (args := #[.pointer (some ⟨w.heap.size, 0, none⟩)]) (by simp) (by simp [go_sem]) ?_
    refine (catchI16 w.heap.size _).mono ?_
    rintro e u' w'' ⟨rfl, rfl, rfl⟩
    simp [Leaves, settle, results, Try.results61, go_sem]
    exact ⟨grown_setCell (grown_of_below hbw p) _ _, rfl, hr3.setRest HR.out hl' hm' hnil'⟩

set_option maxRecDepth 100000 in
set_option maxHeartbeats 1000000 in
theorem readingW (p : Nat) (bs : List Nat) (w : World) (R : Except Nat (Nat × List Nat)) (hr : Rdr w p bs 0)
    (htake : ∀ (w2 : World) (g : Nat), Below w.heap.size w w2 → Cur w2 (w.heap.size + 1) g bs → Calls Try.prog 78 #[.pointer (some ⟨g, 0, none⟩)] w2 fun e w' => Took (fun f => .int .u16 ((f : Nat) : Int)) (w.heap.size + 1) g w2 R e w') :
    Calls Try.prog 77 #[.pointer (some ⟨p, 0, none⟩), .func (.func 78) #[] #[]] w fun e w' => Red (fun f => .int .u16 ((f : Nat) : Int)) (.int .u16 0) p bs w R e w' := by
  have hmf : ∀ (fn : Fn) (first cap : Array Value) (w : World), (Instr.makeFunc fn first cap).run Try.prog w = .ok (.func fn first cap) w := fun _ _ _ _ => rfl
  have hb1 : Below w.heap.size w (w.alloc (.cells #[.pointer (some ⟨p, 0, none⟩)] 28)) := (Below.refl _ _).alloc (Nat.le_refl _) _
  have hp0 := hr.1
  have hr1 := hr.below hb1
  have hf1 := fault_any p bs 0 _ hr1
  have hr2 := hr1.below ((Below.refl _ _).alloc (Nat.le_refl _) (.cells #[.pointer (some ⟨p, 0, none⟩)] 28))
  have hrr := hr
  obtain ⟨_, a, cap, hh, hrow, hl, hm, hnil⟩ := hr
  have hc0 : (w.alloc (.cells #[.pointer (some ⟨p, 0, none⟩)] 28)).cell? ⟨p, 0, none⟩ = some (.slice a bs.length cap) := by rw [cell_of_row _ _ _ _ _ _ (by rw [hb1.block p hp0]; exact hh)]; rfl
  have hcb : (w.alloc (.cells #[.pointer (some ⟨p, 0, none⟩)] 28)).cell? ⟨w.heap.size, 0, none⟩ = some (.pointer (some ⟨p, 0, none⟩)) := by rw [cell_of_row _ _ _ _ _ _ (heap_alloc_new w _)]; rfl
  have hb2 : Below w.heap.size w ((w.alloc (.cells #[.pointer (some ⟨p, 0, none⟩)] 28)).alloc (.cells #[.slice a bs.length cap] 90)) := hb1.alloc hb1.size _
  have hcur2 : Cur ((w.alloc (.cells #[.pointer (some ⟨p, 0, none⟩)] 28)).alloc (.cells #[.slice a bs.length cap] 90)) (w.heap.size + 1) (w.heap.size + 1) bs := by
    refine ⟨Nat.le_refl _, a, cap, ?_, ?_, hl, hm, hnil⟩
    · have e := heap_alloc_new (w.alloc (.cells #[.pointer (some ⟨p, 0, none⟩)] 28)) (.cells #[.slice a bs.length cap] 90)
      simp only [World.size_alloc] at e
      exact e
    · rcases hrow with h | ⟨b, o, e, hlt, hc⟩
      · exact .inl h
      · exact .inr ⟨b, o, e, by omega, Nat.lt_of_lt_of_le hlt hb2.size, fun i hi => by rw [hb2.cell (p := ⟨b, o + i, none⟩) hlt]; exact hc i hi⟩
  have ht := htake _ (w.heap.size + 1) hb2 hcur2
  have hcb2 : ((w.alloc (.cells #[.pointer (some ⟨p, 0, none⟩)] 28)).alloc (.cells #[.slice a bs.length cap] 90)).cell? ⟨w.heap.size, 0, none⟩ = some (.pointer (some ⟨p, 0, none⟩)) := by
    rw [World.cell?_of_block (w := w.alloc (.cells #[.pointer (some ⟨p, 0, none⟩)] 28)) (Below.heap_alloc _ _ _ (by simp))]; exact hcb
  have HCB2 := hide_it hcb2
  clear hcur2 htake hrow hh hcb2
  go_enter_defers Try.func77, Try.ntmps77
  go_wp2_with (go_at_call 12; refine hf1.mono ?_; rintro e w' ⟨rfl, hq⟩; have hq2 := hq.symm; subst hq2; clear hq)
  refine ht.mono ?_
  intro e w3 hk
  clear ht hf1 hc0 hcb hr1 hr2
  cases R with
  | error c =>
    obtain ⟨rfl, hb3⟩ := hk
    have hbw := hb2.trans (hb3.mono (by omega))
    have hr3 := hrr.below hbw
    obtain ⟨q1, q2, q3, _⟩ := hr3.cell1
    have hcb3 : w3.cell? ⟨w.heap.size, 0, none⟩ = some (.pointer (some ⟨p, 0, none⟩)) := (hb3.cell (p := ⟨w.heap.size, 0, none⟩) (by simp)).trans HCB2.out
    go_wp2_with fail
    refine leaves_cons (f := 85) (args := #[.pointer (some ⟨w.heap.size, 0, none⟩)]) (by simp) (by simp [go_sem]) ?_
    refine (catchPW w.heap.size p 0 (c : Int) [] _ hcb3 q1 q2).mono ?_
    rintro e u' w'' ⟨rfl, rfl, rfl⟩
    simp [Leaves, settle, results, Try.results77, go_sem]
    exact ⟨grown_setCell (grown_of_below hbw p) _ _, rfl, hr3.setFault c⟩
  | ok x =>
    obtain ⟨x, t⟩ := x
    obtain ⟨rfl, hcur, hb3⟩ := hk
    have hbw := hb2.trans (hb3.mono (by omega))
    have hr3 := hrr.below hbw
    obtain ⟨q1, q2, q3, v0, q4⟩ := hr3.cell1
    have hcb3 : w3.cell? ⟨w.heap.size, 0, none⟩ = some (.pointer (some ⟨p, 0, none⟩)) := (hb3.cell (p := ⟨w.heap.size, 0, none⟩) (by simp)).trans HCB2.out
    obtain ⟨_, a', cap', hh', hrow', hl', hm', hnil'⟩ := hcur
    have hc3 : w3.cell? ⟨w.heap.size + 1, 0, none⟩ = some (.slice a' t.length cap') := by rw [cell_of_row _ _ _ _ _ _ hh']; rfl
    have HR := hide_it hrow'.row
    clear hh' hrow'
    go_wp2_with fail
    refine leaves_cons (f := 85) (args := #[.pointer (some ⟨w.heap.size, 0, none⟩)]) (by simp) (by simp [go_sem]) ?_
    refine (catchIW w.heap.size _).mono ?_
    rintro e u' w'' ⟨rfl, rfl, rfl⟩
    simp [Leaves, settle, results, Try.results77, go_sem]
    exact ⟨grown_setCell (grown_of_below hbw p) _ _, rfl, hr3.setRest HR.out hl' hm' hnil'⟩

set_option maxRecDepth 100000 in
set_option maxHeartbeats 1000000 in
theorem reading32 (p : Nat) (bs : List Nat) (w : World) (R : Except Nat (Nat × List Nat)) (hr : Rdr w p bs 0)
    (htake : ∀ (w2 : World) (g : Nat), Below w.heap.size w w2 → Cur w2 (w.heap.size + 1) g bs → Calls Try.prog 49 #[.pointer (some ⟨g, 0, none⟩)] w2 fun e w' => Took (fun f => .int .u32 ((f : Nat) : Int)) (w.heap.size + 1) g w2 R e w') :
    Calls Try.prog 48 #[.pointer (some ⟨p, 0, none⟩), .func (.func 49) #[] #[]] w fun e w' => Red (fun f => .int .u32 ((f : Nat) : Int)) (.int .u32 0) p bs w R e w' := by
  have hmf : ∀ (fn : Fn) (first cap : Array Value) (w : World), (Instr.makeFunc fn first cap).run Try.prog w = .ok (.func fn first cap) w := fun _ _ _ _ => rfl
  have hb1 : Below w.heap.size w (w.alloc (.cells #[.pointer (some ⟨p, 0, none⟩)] 28)) := (Below.refl _ _).alloc (Nat.le_refl _) _
  have hp0 := hr.1
  have hr1 := hr.below hb1
  have hf1 := fault_any p bs 0 _ hr1
  have hr2 := hr1.below ((Below.refl _ _).alloc (Nat.le_refl _) (.cells #[.pointer (some ⟨p, 0, none⟩)] 28))
  have hrr := hr
  obtain ⟨_, a, cap, hh, hrow, hl, hm, hnil⟩ := hr
  have hc0 : (w.alloc (.cells #[.pointer (some ⟨p, 0, none⟩)] 28)).cell? ⟨p, 0, none⟩ = some (.slice a bs.length cap) := by rw [cell_of_row _ _ _ _ _ _ (by rw [hb1.block p hp0]; exact hh)]; rfl
  have hcb : (w.alloc (.cells #[.pointer (some ⟨p, 0, none⟩)] 28)).cell? ⟨w.heap.size, 0, none⟩ = some (.pointer (some ⟨p, 0, none⟩)) := by rw [cell_of_row _ _ _ _ _ _ (heap_alloc_new w _)]; rfl
  have hb2 : Below w.heap.size w ((w.alloc (.cells #[.pointer (some ⟨p, 0, none⟩)] 28)).alloc (.cells #[.slice a bs.length cap] 90)) := hb1.alloc hb1.size _
  have hcur2 : Cur ((w.alloc (.cells #[.pointer (some ⟨p, 0, none⟩)] 28)).alloc (.cells #[.slice a bs.length cap] 90)) (w.heap.size + 1) (w.heap.size + 1) bs := by
    refine ⟨Nat.le_refl _, a, cap, ?_, ?_, hl, hm, hnil⟩
    · have e := heap_alloc_new (w.alloc (.cells #[.pointer (some ⟨p, 0, none⟩)] 28)) (.cells #[.slice a bs.length cap] 90)
      simp only [World.size_alloc] at e
      exact e
    · rcases hrow with h | ⟨b, o, e, hlt, hc⟩
      · exact .inl h
      · exact .inr ⟨b, o, e, by omega, Nat.lt_of_lt_of_le hlt hb2.size, fun i hi => by rw [hb2.cell (p := ⟨b, o + i, none⟩) hlt]; exact hc i hi⟩
  have ht := htake _ (w.heap.size + 1) hb2 hcur2
  have hcb2 : ((w.alloc (.cells #[.pointer (some ⟨p, 0, none⟩)] 28)).alloc (.cells #[.slice a bs.length cap] 90)).cell? ⟨w.heap.size, 0, none⟩ = some (.pointer (some ⟨p, 0, none⟩)) := by
    rw [World.cell?_of_block (w := w.alloc (.cells #[.pointer (some ⟨p, 0, none⟩)] 28)) (Below.heap_alloc _ _ _ (by simp))]; exact hcb
  have HCB2 := hide_it hcb2
  clear hcur2 htake hrow hh hcb2
  go_enter_defers Try.func48, Try.ntmps48
  go_wp2_with (go_at_call 12; refine hf1.mono ?_; rintro e w' ⟨rfl, hq⟩; have hq2 := hq.symm; subst hq2; clear hq)
  refine ht.mono ?_
  intro e w3 hk
  clear ht hf1 hc0 hcb hr1 hr2
  cases R with
  | error c =>
    obtain ⟨rfl, hb3⟩ := hk
    have hbw := hb2.trans (hb3.mono (by omega))
    have hr3 := hrr.below hbw
    obtain ⟨q1, q2, q3, _⟩ := hr3.cell1
    have hcb3 : w3.cell? ⟨w.heap.size, 0, none⟩ = some (.pointer (some ⟨p, 0, none⟩)) := (hb3.cell (p := ⟨w.heap.size, 0, none⟩) (by simp)).trans HCB2.out
    go_wp2_with fail
    refine leaves_cons (f := 73) (args := #[.pointer (some ⟨w.heap.size, 0, none⟩)]) (by simp) (by simp [go_sem]) ?_
    refine (catchP32 w.heap.size p 0 (c : Int) [] _ hcb3 q1 q2).mono ?_
    rintro e u' w'' ⟨rfl, rfl, rfl⟩
    simp [Leaves, settle, results, Try.results48, go_sem]
    exact ⟨grown_setCell (grown_of_below hbw p) _ _, rfl, hr3.setFault c⟩
  | ok x =>
    obtain ⟨x, t⟩ := x
    obtain ⟨rfl, hcur, hb3⟩ := hk
    have hbw := hb2.trans (hb3.mono (by omega))
    have hr3 := hrr.below hbw
    obtain ⟨q1, q2, q3, v0, q4⟩ := hr3.cell1
    have hcb3 : w3.cell? ⟨w.heap.size, 0, none⟩ = some (.pointer (some ⟨p, 0, none⟩)) := (hb3.cell (p := ⟨w.heap.size, 0, none⟩) (by simp)).trans HCB2.out
    obtain ⟨_, a', cap', hh', hrow', hl', hm', hnil'⟩ := hcur
    have hc3 : w3.cell? ⟨w.heap.size + 1, 0, none⟩ = some (.slice a' t.length cap') := by rw [cell_of_row _ _ _ _ _ _ hh']; rfl
    have HR := hide_it hrow'.row
    clear hh' hrow'
    go_wp2_with fail
    refine leaves_cons (f := 73) (args := #[.pointer (some ⟨w.heap.size, 0, none⟩)]) (by simp) (by simp [go_sem]) ?_
    refine (catchI32 w.heap.size _).mono ?_
    rintro e u' w'' ⟨rfl, rfl, rfl⟩
    simp [Leaves, settle, results, Try.results48, go_sem]
    exact ⟨grown_setCell (grown_of_below hbw p) _ _, rfl, hr3.setRest HR.out hl' hm' hnil'⟩

set_option maxRecDepth 100000 in
set_option maxHeartbeats 1000000 in
theorem reading64 (p : Nat) (bs : List Nat) (w : World) (R : Except Nat (Nat × List Nat)) (hr : Rdr w p bs 0)
    (htake : ∀ (w2 : World) (g : Nat), Below w.heap.size w w2 → Cur w2 (w.heap.size + 1) g bs → Calls Try.prog 64 #[.pointer (some ⟨g, 0, none⟩)] w2 fun e w' => Took (fun f => .int .u64 ((f : Nat) : Int)) (w.heap.size + 1) g w2 R e w') :
    Calls Try.prog 63 #[.pointer (some ⟨p, 0, none⟩), .func (.func 64) #[] #[]] w fun e w' => Red (fun f => .int .u64 ((f : Nat) : Int)) (.int .u64 0) p bs w R e w' := by
  have hmf : ∀ (fn : Fn) (first cap : Array Value) (w : World), (Instr.makeFunc fn first cap).run Try.prog w = .ok (.func fn first cap) w := fun _ _ _ _ => rfl
  have hb1 : Below w.heap.size w (w.alloc (.cells #[.pointer (some ⟨p, 0, none⟩)] 28)) := (Below.refl _ _).alloc (Nat.le_refl _) _
  have hp0 := hr.1
  have hr1 := hr.below hb1
  have hf1 := fault_any p bs 0 _ hr1
  have hr2 := hr1.below ((Below.refl _ _).alloc (Nat.le_refl _) (.cells #[.pointer (some ⟨p, 0, none⟩)] 28))
  have hrr := hr
  obtain ⟨_, a, cap, hh, hrow, hl, hm, hnil⟩ := hr
  have hc0 : (w.alloc (.cells #[.pointer (some ⟨p, 0, none⟩)] 28)).cell? ⟨p, 0, none⟩ = some (.slice a bs.length cap) := by rw [cell_of_row _ _ _ _ _ _ (by rw [hb1.block p hp0]; exact hh)]; rfl
  have hcb : (w.alloc (.cells #[.pointer (some ⟨p, 0, none⟩)] 28)).cell? ⟨w.heap.size, 0, none⟩ = some (.pointer (some ⟨p, 0, none⟩)) := by rw [cell_of_row _ _ _ _ _ _ (heap_alloc_new w _)]; rfl
  have hb2 : Below w.heap.size w ((w.alloc (.cells #[.pointer (some ⟨p, 0, none⟩)] 28)).alloc (.cells #[.slice a bs.length cap] 90)) := hb1.alloc hb1.size _
  have hcur2 : Cur ((w.alloc (.cells #[.pointer (some ⟨p, 0, none⟩)] 28)).alloc (.cells #[.slice a bs.length cap] 90)) (w.heap.size + 1) (w.heap.size + 1) bs := by
    refine ⟨Nat.le_refl _, a, cap, ?_, ?_, hl, hm, hnil⟩
    · have e := heap_alloc_new (w.alloc (.cells #[.pointer (some ⟨p, 0, none⟩)] 28)) (.cells #[.slice a bs.length cap] 90)
      simp only [World.size_alloc] at e
      exact e
    · rcases hrow with h | ⟨b, o, e, hlt, hc⟩
      · exact .inl h
      · exact .inr ⟨b, o, e, by omega, Nat.lt_of_lt_of_le hlt hb2.size, fun i hi => by rw [hb2.cell (p := ⟨b, o + i, none⟩) hlt]; exact hc i hi⟩
  have ht := htake _ (w.heap.size + 1) hb2 hcur2
  have hcb2 : ((w.alloc (.cells #[.pointer (some ⟨p, 0, none⟩)] 28)).alloc (.cells #[.slice a bs.length cap] 90)).cell? ⟨w.heap.size, 0, none⟩ = some (.pointer (some ⟨p, 0, none⟩)) := by
    rw [World.cell?_of_block (w := w.alloc (.cells #[.pointer (some ⟨p, 0, none⟩)] 28)) (Below.heap_alloc _ _ _ (by simp))]; exact hcb
  have HCB2 := hide_it hcb2
  clear hcur2 htake hrow hh hcb2
  go_enter_defers Try.func63, Try.ntmps63
  go_wp2_with (go_at_call 12; refine hf1.mono ?_; rintro e w' ⟨rfl, hq⟩; have hq2 := hq.symm; subst hq2; clear hq)
  refine ht.mono ?_
  intro e w3 hk
  clear ht hf1 hc0 hcb hr1 hr2
  cases R with
  | error c =>
    obtain ⟨rfl, hb3⟩ := hk
    have hbw := hb2.trans (hb3.mono (by omega))
    have hr3 := hrr.below hbw
    obtain ⟨q1, q2, q3, _⟩ := hr3.cell1
    have hcb3 : w3.cell? ⟨w.heap.size, 0, none⟩ = some (.pointer (some ⟨p, 0, none⟩)) := (hb3.cell (p := ⟨w.heap.size, 0, none⟩) (by simp)).trans HCB2.out
    go_wp2_with fail
    refine leaves_cons (f := 83) (args := #[.pointer (some ⟨w.heap.size, 0, none⟩)]) (by simp) (by simp [go_sem]) ?_
    refine (catchP64 w.heap.size p 0 (c : Int) [] _ hcb3 q1 q2).mono ?_
    rintro e u' w'' ⟨rfl, rfl, rfl⟩
    simp [Leaves, settle, results, Try.results63, go_sem]
    exact ⟨grown_setCell (grown_of_below hbw p) _ _, rfl, hr3.setFault c⟩
  | ok x =>
    obtain ⟨x, t⟩ := x
    obtain ⟨rfl, hcur, hb3⟩ := hk
    have hbw := hb2.trans (hb3.mono (by omega))
    have hr3 := hrr.below hbw
    obtain ⟨q1, q2, q3, v0, q4⟩ := hr3.cell1
    have hcb3 : w3.cell? ⟨w.heap.size, 0, none⟩ = some (.pointer (some ⟨p, 0, none⟩)) := (hb3.cell (p := ⟨w.heap.size, 0, none⟩) (by simp)).trans HCB2.out
    obtain ⟨_, a', cap', hh', hrow', hl', hm', hnil'⟩ := hcur
    have hc3 : w3.cell? ⟨w.heap.size + 1, 0, none⟩ = some (.slice a' t.length cap') := by rw [cell_of_row _ _ _ _ _ _ hh']; rfl
    have HR := hide_it hrow'.row
    clear hh' hrow'
    go_wp2_with fail
    refine leaves_cons (f := 83) (args := #[.pointer (some ⟨w.heap.size, 0, none⟩)]) (by simp) (by simp [go_sem]) ?_
    refine (catchI64 w.heap.size _).mono ?_
    rintro e u' w'' ⟨rfl, rfl, rfl⟩
    simp [Leaves, settle, results, Try.results63, go_sem]
    exact ⟨grown_setCell (grown_of_below hbw p) _ _, rfl, hr3.setRest HR.out hl' hm' hnil'⟩

set_option maxRecDepth 100000 in
set_option maxHeartbeats 1000000 in
theorem readingI (p : Nat) (L H : Nat) (bs : List Nat) (w : World) (R : Except Nat (Int × List Nat)) (hr : Rdr w p bs 0)
    (htake : ∀ (w2 : World) (g : Nat), Below w.heap.size w w2 → Cur w2 (w.heap.size + 1) g bs → Calls Try.prog 41 #[.pointer (some ⟨g, 0, none⟩), .pointer (some ⟨L, 0, none⟩), .pointer (some ⟨H, 0, none⟩)] w2 fun e w' => Took (fun n => .int .i64 n) (w.heap.size + 1) g w2 R e w') :
    Calls Try.prog 40 #[.pointer (some ⟨p, 0, none⟩), .func (.func 41) #[] #[.pointer (some ⟨L, 0, none⟩), .pointer (some ⟨H, 0, none⟩)]] w fun e w' => Red (fun n => .int .i64 n) (.int .i64 0) p bs w R e w' := by
  have hmf : ∀ (fn : Fn) (first cap : Array Value) (w : World), (Instr.makeFunc fn first cap).run Try.prog w = .ok (.func fn first cap) w := fun _ _ _ _ => rfl
  have hb1 : Below w.heap.size w (w.alloc (.cells #[.pointer (some ⟨p, 0, none⟩)] 28)) := (Below.refl _ _).alloc (Nat.le_refl _) _
  have hp0 := hr.1
  have hr1 := hr.below hb1
  have hf1 := fault_any p bs 0 _ hr1
  have hr2 := hr1.below ((Below.refl _ _).alloc (Nat.le_refl _) (.cells #[.pointer (some ⟨p, 0, none⟩)] 28))
  have hrr := hr
  obtain ⟨_, a, cap, hh, hrow, hl, hm, hnil⟩ := hr
  have hc0 : (w.alloc (.cells #[.pointer (some ⟨p, 0, none⟩)] 28)).cell? ⟨p, 0, none⟩ = some (.slice a bs.length cap) := by rw [cell_of_row _ _ _ _ _ _ (by rw [hb1.block p hp0]; exact hh)]; rfl
  have hcb : (w.alloc (.cells #[.pointer (some ⟨p, 0, none⟩)] 28)).cell? ⟨w.heap.size, 0, none⟩ = some (.pointer (some ⟨p, 0, none⟩)) := by rw [cell_of_row _ _ _ _ _ _ (heap_alloc_new w _)]; rfl
  have hb2 : Below w.heap.size w ((w.alloc (.cells #[.pointer (some ⟨p, 0, none⟩)] 28)).alloc (.cells #[.slice a bs.length cap] 90)) := hb1.alloc hb1.size _
  have hcur2 : Cur ((w.alloc (.cells #[.pointer (some ⟨p, 0, none⟩)] 28)).alloc (.cells #[.slice a bs.length cap] 90)) (w.heap.size + 1) (w.heap.size + 1) bs := by
    refine ⟨Nat.le_refl _, a, cap, ?_, ?_, hl, hm, hnil⟩
    · have e := heap_alloc_new (w.alloc (.cells #[.pointer (some ⟨p, 0, none⟩)] 28)) (.cells #[.slice a bs.length cap] 90)
      simp only [World.size_alloc] at e
      exact e
    · rcases hrow with h | ⟨b, o, e, hlt, hc⟩
      · exact .inl h
      · exact .inr ⟨b, o, e, by omega, Nat.lt_of_lt_of_le hlt hb2.size, fun i hi => by rw [hb2.cell (p := ⟨b, o + i, none⟩) hlt]; exact hc i hi⟩
  have ht := htake _ (w.heap.size + 1) hb2 hcur2
  have hcb2 : ((w.alloc (.cells #[.pointer (some ⟨p, 0, none⟩)] 28)).alloc (.cells #[.slice a bs.length cap] 90)).cell? ⟨w.heap.size, 0, none⟩ = some (.pointer (some ⟨p, 0, none⟩)) := by
    rw [World.cell?_of_block (w := w.alloc (.cells #[.pointer (some ⟨p, 0, none⟩)] 28)) (Below.heap_alloc _ _ _ (by simp))]; exact hcb
  have HCB2 := hide_it hcb2
  clear hcur2 htake hrow hh hcb2
  go_enter_defers Try.func40, Try.ntmps40
  go_wp2_with (go_at_call 12; refine hf1.mono ?_; rintro e w' ⟨rfl, hq⟩; have hq2 := hq.symm; subst hq2; clear hq)
  refine ht.mono ?_
  intro e w3 hk
  clear ht hf1 hc0 hcb hr1 hr2
  cases R with
  | error c =>
    obtain ⟨rfl, hb3⟩ := hk
    have hbw := hb2.trans (hb3.mono (by omega))
    have hr3 := hrr.below hbw
    obtain ⟨q1, q2, q3, _⟩ := hr3.cell1
    have hcb3 : w3.cell? ⟨w.heap.size, 0, none⟩ = some (.pointer (some ⟨p, 0, none⟩)) := (hb3.cell (p := ⟨w.heap.size, 0, none⟩) (by simp)).trans HCB2.out
    go_wp2_with fail
    refine leaves_cons (f := 67) (args := #[.pointer (some ⟨w.heap.size, 0, none⟩)]) (by simp) (by simp [go_sem]) ?_
    refine (catchPI w.heap.size p 0 (c : Int) [] _ hcb3 q1 q2).mono ?_
    rintro e u' w'' ⟨rfl, rfl, rfl⟩
    simp [Leaves, settle, results, Try.results40, go_sem]
    exact ⟨grown_setCell (grown_of_below hbw p) _ _, rfl, hr3.setFault c⟩
  | ok x =>
    obtain ⟨x, t⟩ := x
    obtain ⟨rfl, hcur, hb3⟩ := hk
    have hbw := hb2.trans (hb3.mono (by omega))
    have hr3 := hrr.below hbw
    obtain ⟨q1, q2, q3, v0, q4⟩ := hr3.cell1
    have hcb3 : w3.cell? ⟨w.heap.size, 0, none⟩ = some (.pointer (some ⟨p, 0, none⟩)) := (hb3.cell (p := ⟨w.heap.size, 0, none⟩) (by simp)).trans HCB2.out
    obtain ⟨_, a', cap', hh', hrow', hl', hm', hnil'⟩ := hcur
    have hc3 : w3.cell? ⟨w.heap.size + 1, 0, none⟩ = some (.slice a' t.length cap') := by rw [cell_of_row _ _ _ _ _ _ hh']; rfl
    have HR := hide_it hrow'.row
    clear hh' hrow'
    go_wp2_with fail
    refine leaves_cons (f := 67) (args := #[.pointer (some ⟨w.heap.size, 0, none⟩)]) (by simp) (by simp [go_sem]) ?_
    refine (catchII w.heap.size _).mono ?_
    rintro e u' w'' ⟨rfl, rfl, rfl⟩
    simp [Leaves, settle, results, Try.results40, go_sem]
    exact ⟨grown_setCell (grown_of_below hbw p) _ _, rfl, hr3.setRest HR.out hl' hm' hnil'⟩

end Go.Proofs.Ytfhinodieghklab
