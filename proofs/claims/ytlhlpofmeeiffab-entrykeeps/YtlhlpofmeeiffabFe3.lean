/- A reader, whatever it is: Int, Text, Bytes, Left, End. -/
import Derived.Test.YtlhlpofmeeiffabFe2
namespace Go.Proofs.Ytlhlpofmeeiffab
open Go.RowKit

set_option maxRecDepth 100000 in
set_option maxHeartbeats 400000 in
theorem left_any (p : Nat) (bs : List Nat) (f : Nat) (w : World) (hr : Rdr w p bs f) :
    Calls Try.prog 51 #[.pointer (some ⟨p, 0, none⟩)] w fun e w' => e = .returned (.int .i64 (bs.length : Int)) ∧ w' = w := by
  obtain ⟨hp, a, cap, hh, _⟩ := hr
  have h1 : w.cell? ⟨p, 0, none⟩ = some (.slice a bs.length cap) := by rw [cell_of_row _ _ _ _ _ _ hh]; rfl
  clear hh
  go_enter Try.func51, Try.ntmps51
  go_wp2
  go_ret
  exact ⟨rfl, rfl⟩

set_option maxRecDepth 100000 in
set_option maxHeartbeats 400000 in
theorem left_nil (w : World) : Calls Try.prog 51 #[.pointer none] w fun e w' => e = .returned (.int .i64 0) ∧ w' = w := by
  go_enter Try.func51, Try.ntmps51
  go_wp2
  go_ret
  exact ⟨rfl, rfl⟩

/-- What End answers. -/
def endOf (bs : List Nat) (f : Nat) : Nat := if f ≠ 0 then f else if 0 < bs.length then 22 else 0

set_option maxRecDepth 100000 in
set_option maxHeartbeats 400000 in
theorem end_any (p : Nat) (bs : List Nat) (f : Nat) (w : World) (hr : Rdr w p bs f) :
    Calls Try.prog 39 #[.pointer (some ⟨p, 0, none⟩)] w fun e w' => e = .returned (.int .i64 ((endOf bs f : Nat) : Int)) ∧ w' = w := by
  have h1 := fault_any p bs f w hr
  have h2 := left_any p bs f w hr
  clear hr
  by_cases hf : f = 0
  · subst hf
    by_cases hl : 0 < bs.length
    · have HE : Hid (endOf bs 0 = 22) := by unfold Hid endOf; rw [if_neg (by simp), if_pos hl]
      have hd : decide ((0 : Int) < (bs.length : Int)) = true := by simp; omega
      go_enter Try.func39, Try.ntmps39
      go_wp2_with (first | (go_at_call 50; refine h1.mono ?_; rintro e w' ⟨rfl, hq⟩; have hq2 := hq.symm; subst hq2; clear hq) | (go_at_call 51; refine h2.mono ?_; rintro e w' ⟨rfl, hq⟩; have hq2 := hq.symm; subst hq2; clear hq))
      go_ret
      rw [HE.out]
      exact ⟨rfl, rfl⟩
    · have HE : Hid (endOf bs 0 = 0) := by unfold Hid endOf; rw [if_neg (by simp), if_neg hl]
      have hd : decide ((0 : Int) < (bs.length : Int)) = false := decide_eq_false (by omega)
      go_enter Try.func39, Try.ntmps39
      go_wp2_with (first | (go_at_call 50; refine h1.mono ?_; rintro e w' ⟨rfl, hq⟩; have hq2 := hq.symm; subst hq2; clear hq) | (go_at_call 51; refine h2.mono ?_; rintro e w' ⟨rfl, hq⟩; have hq2 := hq.symm; subst hq2; clear hq))
      go_ret
      rw [HE.out]
      exact ⟨rfl, rfl⟩
  · have HE : Hid (endOf bs f = f) := by unfold Hid endOf; rw [if_pos hf]
    have hd : ((f : Int) == 0) = false := by simp; omega
    go_enter Try.func39, Try.ntmps39
    go_wp2_with (first | (go_at_call 50; refine h1.mono ?_; rintro e w' ⟨rfl, hq⟩; have hq2 := hq.symm; subst hq2; clear hq))
    go_ret
    rw [HE.out]
    exact ⟨rfl, rfl⟩

set_option maxRecDepth 100000 in
set_option maxHeartbeats 400000 in
theorem end_nil (w : World) : Calls Try.prog 39 #[.pointer none] w fun e w' => e = .returned (.int .i64 1) ∧ w' = w := by
  go_enter Try.func39, Try.ntmps39
  go_wp2_with (go_at_call 50; refine (fault_nil _).mono ?_; rintro e w' ⟨rfl, hq⟩; have hq2 := hq.symm; subst hq2; clear hq)
  go_ret
  exact ⟨rfl, rfl⟩

set_option maxRecDepth 100000 in
set_option maxHeartbeats 400000 in
theorem catchPI (B p : Nat) (x c : Int) (older : List PanicEntry) (w : World) (hB : w.cell? ⟨B, 0, none⟩ = some (.pointer (some ⟨p, 0, none⟩))) (hc : w.cell? ⟨p, 1, none⟩ = some (.int .i64 x)) (hz : w.frozen? ⟨p, 1, none⟩ = false) :
    CallsD Try.prog 68 #[.pointer (some ⟨B, 0, none⟩)] (.panicking ({ v := .iface 31 (.int .i64 c), recovered := false } :: older)) w fun e u' w' =>
      e = .returned (.tuple #[]) ∧ u' = .panicking ({ v := .iface 31 (.int .i64 c), recovered := true } :: older) ∧ w' = w.setCell ⟨p, 1, none⟩ (.int .i64 c) := by
  refine callsD_of_wpS Try.func68 rfl fun c₀ cs hu => ?_
  apply wpS_seq
  apply wpS_region
  simp [wpOpsS, go_sem, recoverD, hu, ta_hit, Try.ntmps68, Exit.thenS]
  apply wpS_seq
  apply wpS_region
  simp [wpOpsS, go_sem, Exit.thenS]
  refine wpS_cond (t := true) (by simp [Act.eval, Array.replicate]) ?_
  simp only [if_true]
  apply wpS_region
  simp [wpOpsS, go_sem, hB, hc, hz, bodyPostS, results, Try.results68, Array.replicate]

set_option maxRecDepth 100000 in
set_option maxHeartbeats 400000 in
theorem catchII (B : Nat) (w : World) :
    CallsD Try.prog 68 #[.pointer (some ⟨B, 0, none⟩)] .returning w fun e u' w' => e = .returned (.tuple #[]) ∧ u' = .returning ∧ w' = w := by
  refine callsD_of_wpS Try.func68 rfl fun c₀ cs hu => ?_
  apply wpS_seq
  apply wpS_region
  simp [wpOpsS, go_sem, recoverD, hu, ta_nil, Try.ntmps68, Exit.thenS]
  apply wpS_seq
  apply wpS_region
  simp [wpOpsS, go_sem, Exit.thenS]
  refine wpS_cond (t := false) (by simp [Act.eval, Array.replicate]) ?_
  simp only [Bool.false_eq_true, if_false]
  refine wpS_of_wp (wp_skip ?_)
  cases c₀
  simp_all [bodyPostS, results, Try.results68]

set_option maxRecDepth 100000 in
set_option maxHeartbeats 400000 in
theorem catchPS (B p : Nat) (x c : Int) (older : List PanicEntry) (w : World) (hB : w.cell? ⟨B, 0, none⟩ = some (.pointer (some ⟨p, 0, none⟩))) (hc : w.cell? ⟨p, 1, none⟩ = some (.int .i64 x)) (hz : w.frozen? ⟨p, 1, none⟩ = false) :
    CallsD Try.prog 67 #[.pointer (some ⟨B, 0, none⟩)] (.panicking ({ v := .iface 31 (.int .i64 c), recovered := false } :: older)) w fun e u' w' =>
      e = .returned (.tuple #[]) ∧ u' = .panicking ({ v := .iface 31 (.int .i64 c), recovered := true } :: older) ∧ w' = w.setCell ⟨p, 1, none⟩ (.int .i64 c) := by
  refine callsD_of_wpS Try.func67 rfl fun c₀ cs hu => ?_
  apply wpS_seq
  apply wpS_region
  simp [wpOpsS, go_sem, recoverD, hu, ta_hit, Try.ntmps67, Exit.thenS]
  apply wpS_seq
  apply wpS_region
  simp [wpOpsS, go_sem, Exit.thenS]
  refine wpS_cond (t := true) (by simp [Act.eval, Array.replicate]) ?_
  simp only [if_true]
  apply wpS_region
  simp [wpOpsS, go_sem, hB, hc, hz, bodyPostS, results, Try.results67, Array.replicate]

set_option maxRecDepth 100000 in
set_option maxHeartbeats 400000 in
theorem catchIS (B : Nat) (w : World) :
    CallsD Try.prog 67 #[.pointer (some ⟨B, 0, none⟩)] .returning w fun e u' w' => e = .returned (.tuple #[]) ∧ u' = .returning ∧ w' = w := by
  refine callsD_of_wpS Try.func67 rfl fun c₀ cs hu => ?_
  apply wpS_seq
  apply wpS_region
  simp [wpOpsS, go_sem, recoverD, hu, ta_nil, Try.ntmps67, Exit.thenS]
  apply wpS_seq
  apply wpS_region
  simp [wpOpsS, go_sem, Exit.thenS]
  refine wpS_cond (t := false) (by simp [Act.eval, Array.replicate]) ?_
  simp only [Bool.false_eq_true, if_false]
  refine wpS_of_wp (wp_skip ?_)
  cases c₀
  simp_all [bodyPostS, results, Try.results67]

set_option maxRecDepth 100000 in
set_option maxHeartbeats 400000 in
theorem catchPB (B p : Nat) (x c : Int) (older : List PanicEntry) (w : World) (hB : w.cell? ⟨B, 0, none⟩ = some (.pointer (some ⟨p, 0, none⟩))) (hc : w.cell? ⟨p, 1, none⟩ = some (.int .i64 x)) (hz : w.frozen? ⟨p, 1, none⟩ = false) :
    CallsD Try.prog 71 #[.pointer (some ⟨B, 0, none⟩)] (.panicking ({ v := .iface 31 (.int .i64 c), recovered := false } :: older)) w fun e u' w' =>
      e = .returned (.tuple #[]) ∧ u' = .panicking ({ v := .iface 31 (.int .i64 c), recovered := true } :: older) ∧ w' = w.setCell ⟨p, 1, none⟩ (.int .i64 c) := by
  refine callsD_of_wpS Try.func71 rfl fun c₀ cs hu => ?_
  apply wpS_seq
  apply wpS_region
  simp [wpOpsS, go_sem, recoverD, hu, ta_hit, Try.ntmps71, Exit.thenS]
  apply wpS_seq
  apply wpS_region
  simp [wpOpsS, go_sem, Exit.thenS]
  refine wpS_cond (t := true) (by simp [Act.eval, Array.replicate]) ?_
  simp only [if_true]
  apply wpS_region
  simp [wpOpsS, go_sem, hB, hc, hz, bodyPostS, results, Try.results71, Array.replicate]

set_option maxRecDepth 100000 in
set_option maxHeartbeats 400000 in
theorem catchIB (B : Nat) (w : World) :
    CallsD Try.prog 71 #[.pointer (some ⟨B, 0, none⟩)] .returning w fun e u' w' => e = .returned (.tuple #[]) ∧ u' = .returning ∧ w' = w := by
  refine callsD_of_wpS Try.func71 rfl fun c₀ cs hu => ?_
  apply wpS_seq
  apply wpS_region
  simp [wpOpsS, go_sem, recoverD, hu, ta_nil, Try.ntmps71, Exit.thenS]
  apply wpS_seq
  apply wpS_region
  simp [wpOpsS, go_sem, Exit.thenS]
  refine wpS_cond (t := false) (by simp [Act.eval, Array.replicate]) ?_
  simp only [Bool.false_eq_true, if_false]
  refine wpS_of_wp (wp_skip ?_)
  cases c₀
  simp_all [bodyPostS, results, Try.results71]

set_option maxRecDepth 100000 in
set_option maxHeartbeats 1000000 in
theorem readingI (p : Nat) (L H : Nat) (bs : List Nat) (w : World) (R : Except Nat (Int × List Nat)) (hr : Rdr w p bs 0)
    (htake : ∀ (w2 : World) (g : Nat), Below w.heap.size w w2 → Cur w2 (w.heap.size + 1) g bs → Calls Try.prog 61 #[.pointer (some ⟨g, 0, none⟩), .pointer (some ⟨L, 0, none⟩), .pointer (some ⟨H, 0, none⟩)] w2 fun e w' => Took (fun n => .int .i64 n) (w.heap.size + 1) g w2 R e w') :
    Calls Try.prog 60 #[.pointer (some ⟨p, 0, none⟩), .func (.func 61) #[] #[.pointer (some ⟨L, 0, none⟩), .pointer (some ⟨H, 0, none⟩)]] w fun e w' => Red (fun n => .int .i64 n) (.int .i64 0) p bs w R e w' := by
  have hmf : ∀ (fn : Fn) (first cap : Array Value) (w : World), (Instr.makeFunc fn first cap).run Try.prog w = .ok (.func fn first cap) w := fun _ _ _ _ => rfl
  have hb1 : Below w.heap.size w (w.alloc (.cells #[.pointer (some ⟨p, 0, none⟩)] 58)) := (Below.refl _ _).alloc (Nat.le_refl _) _
  have hp0 := hr.1
  have hr1 := hr.below hb1
  have hf1 := fault_any p bs 0 _ hr1
  have hr2 := hr1.below ((Below.refl _ _).alloc (Nat.le_refl _) (.cells #[.pointer (some ⟨p, 0, none⟩)] 58))
  have hrr := hr
  obtain ⟨_, a, cap, hh, hrow, hl, hm, hnil⟩ := hr
  have hc0 : (w.alloc (.cells #[.pointer (some ⟨p, 0, none⟩)] 58)).cell? ⟨p, 0, none⟩ = some (.slice a bs.length cap) := by rw [cell_of_row _ _ _ _ _ _ (by rw [hb1.block p hp0]; exact hh)]; rfl
  have hcb : (w.alloc (.cells #[.pointer (some ⟨p, 0, none⟩)] 58)).cell? ⟨w.heap.size, 0, none⟩ = some (.pointer (some ⟨p, 0, none⟩)) := by rw [cell_of_row _ _ _ _ _ _ (heap_alloc_new w _)]; rfl
  have hb2 : Below w.heap.size w ((w.alloc (.cells #[.pointer (some ⟨p, 0, none⟩)] 58)).alloc (.cells #[.slice a bs.length cap] 89)) := hb1.alloc hb1.size _
  have hcur2 : Cur ((w.alloc (.cells #[.pointer (some ⟨p, 0, none⟩)] 58)).alloc (.cells #[.slice a bs.length cap] 89)) (w.heap.size + 1) (w.heap.size + 1) bs := by
    refine ⟨Nat.le_refl _, a, cap, ?_, ?_, hl, hm, hnil⟩
    · have e := heap_alloc_new (w.alloc (.cells #[.pointer (some ⟨p, 0, none⟩)] 58)) (.cells #[.slice a bs.length cap] 89)
      simp only [World.size_alloc] at e
      exact e
    · rcases hrow with h | ⟨b, o, e, hlt, hc⟩
      · exact .inl h
      · exact .inr ⟨b, o, e, by omega, Nat.lt_of_lt_of_le hlt hb2.size, fun i hi => by rw [hb2.cell (p := ⟨b, o + i, none⟩) hlt]; exact hc i hi⟩
  have ht := htake _ (w.heap.size + 1) hb2 hcur2
  have hcb2 : ((w.alloc (.cells #[.pointer (some ⟨p, 0, none⟩)] 58)).alloc (.cells #[.slice a bs.length cap] 89)).cell? ⟨w.heap.size, 0, none⟩ = some (.pointer (some ⟨p, 0, none⟩)) := by
    rw [World.cell?_of_block (w := w.alloc (.cells #[.pointer (some ⟨p, 0, none⟩)] 58)) (Below.heap_alloc _ _ _ (by simp))]; exact hcb
  have HCB2 := hide_it hcb2
  clear hcur2 htake hrow hh hcb2
  go_enter_defers Try.func60, Try.ntmps60
  go_wp2_with (go_at_call 50; refine hf1.mono ?_; rintro e w' ⟨rfl, hq⟩; have hq2 := hq.symm; subst hq2; clear hq)
  refine ht.mono ?_
  intro e w3 hk
  clear ht hf1 hc0 hcb hr1 hr2
  cases R with
  | error c =>
    obtain ⟨rfl, hb3⟩ := hk
    have hbw := hb2.trans (hb3.mono (by omega))
    have hr3 := hrr.below hbw
    obtain ⟨q1, q2, q3, _⟩ := hr3.cell1
    have hcb3 : w3.cell? ⟨w.heap.size, 0, none⟩ = some (.pointer (some ⟨p, 0, none⟩)) := (hb3.cell (p := ⟨w.heap.size, 0, none⟩) (by simp)).trans HCB2.out
    go_wp2_with fail
    refine leaves_cons (f := 68) (args := #[.pointer (some ⟨w.heap.size, 0, none⟩)]) (by simp) (by simp [go_sem]) ?_
    refine (catchPI w.heap.size p 0 (c : Int) [] _ hcb3 q1 q2).mono ?_
    rintro e u' w'' ⟨rfl, rfl, rfl⟩
    simp [Leaves, settle, results, Try.results60, go_sem]
    exact ⟨grown_setCell (grown_of_below hbw p) _ _, rfl, hr3.setFault c⟩
  | ok x =>
    obtain ⟨x, t⟩ := x
    obtain ⟨rfl, hcur, hb3⟩ := hk
    have hbw := hb2.trans (hb3.mono (by omega))
    have hr3 := hrr.below hbw
    obtain ⟨q1, q2, q3, v0, q4⟩ := hr3.cell1
    have hcb3 : w3.cell? ⟨w.heap.size, 0, none⟩ = some (.pointer (some ⟨p, 0, none⟩)) := (hb3.cell (p := ⟨w.heap.size, 0, none⟩) (by simp)).trans HCB2.out
    obtain ⟨_, a', cap', hh', hrow', hl', hm', hnil'⟩ := hcur
    have hc3 : w3.cell? ⟨w.heap.size + 1, 0, none⟩ = some (.slice a' t.length cap') := by rw [cell_of_row _ _ _ _ _ _ hh']; rfl
    have HR := hide_it hrow'.row
    clear hh' hrow'
    go_wp2_with fail
    refine leaves_cons (f := 68) (args := #[.pointer (some ⟨w.heap.size, 0, none⟩)]) (by simp) (by simp [go_sem]) ?_
    refine (catchII w.heap.size _).mono ?_
    rintro e u' w'' ⟨rfl, rfl, rfl⟩
    simp [Leaves, settle, results, Try.results60, go_sem]
    exact ⟨grown_setCell (grown_of_below hbw p) _ _, rfl, hr3.setRest HR.out hl' hm' hnil'⟩

theorem left_st (rp : Option Addr) (s : List Nat × Nat) (w : World) (h : Rst w rp s) :
    Calls Try.prog 51 #[.pointer rp] w fun e w' => e = .returned (.int .i64 (s.1.length : Int)) ∧ w' = w := by
  rcases h with ⟨rfl, rfl⟩ | ⟨p, rfl, h2, _⟩
  · exact left_nil w
  · exact left_any p s.1 s.2 w h2

theorem end_st (rp : Option Addr) (s : List Nat × Nat) (w : World) (h : Rst w rp s) :
    Calls Try.prog 39 #[.pointer rp] w fun e w' => e = .returned (.int .i64 ((endOf s.1 s.2 : Nat) : Int)) ∧ w' = w := by
  rcases h with ⟨rfl, rfl⟩ | ⟨p, rfl, h2, _⟩
  · exact end_nil w
  · exact end_any p s.1 s.2 w h2

set_option maxRecDepth 100000 in
set_option maxHeartbeats 400000 in
theorem shutI (rp : Option Addr) (K : Nat) (caps : Array Value) (s : List Nat × Nat) (w : World) (hs : Rst w rp s) (hf : s.2 ≠ 0) :
    Calls Try.prog 60 #[.pointer rp, .func (.func K) #[] caps] w fun e w' => e = .returned (.int .i64 0) ∧ Below w.heap.size w w' := by
  have hb1 : Below w.heap.size w (w.alloc (.cells #[.pointer rp] 58)) := (Below.refl _ _).alloc (Nat.le_refl _) _
  have hf1 := fault_st rp s _ (hs.below hb1)
  have hne : ((s.2 : Int) == 0) = false := by simp; omega
  clear hf hs
  generalize s.2 = f at *
  go_enter_defers Try.func60, Try.ntmps60
  go_wp2_with fail
  refine hf1.mono ?_
  rintro e w' ⟨rfl, hq⟩
  have hq2 := hq.symm
  subst hq2
  clear hq hf1
  go_wp2_with fail
  simp [bodyPostD, Leaves, results, Try.results60, go_sem]
  exact hb1

set_option maxRecDepth 100000 in
set_option maxHeartbeats 400000 in
theorem shutS (rp : Option Addr) (K : Nat) (caps : Array Value) (s : List Nat × Nat) (w : World) (hs : Rst w rp s) (hf : s.2 ≠ 0) :
    Calls Try.prog 57 #[.pointer rp, .func (.func K) #[] caps] w fun e w' => e = .returned (.string ⟨#[]⟩) ∧ Below w.heap.size w w' := by
  have hb1 : Below w.heap.size w (w.alloc (.cells #[.pointer rp] 58)) := (Below.refl _ _).alloc (Nat.le_refl _) _
  have hf1 := fault_st rp s _ (hs.below hb1)
  have hne : ((s.2 : Int) == 0) = false := by simp; omega
  clear hf hs
  generalize s.2 = f at *
  go_enter_defers Try.func57, Try.ntmps57
  go_wp2_with fail
  refine hf1.mono ?_
  rintro e w' ⟨rfl, hq⟩
  have hq2 := hq.symm
  subst hq2
  clear hq hf1
  go_wp2_with fail
  simp [bodyPostD, Leaves, results, Try.results57, go_sem]
  exact hb1

set_option maxRecDepth 100000 in
set_option maxHeartbeats 400000 in
theorem shutB (rp : Option Addr) (K : Nat) (caps : Array Value) (s : List Nat × Nat) (w : World) (hs : Rst w rp s) (hf : s.2 ≠ 0) :
    Calls Try.prog 63 #[.pointer rp, .func (.func K) #[] caps] w fun e w' => e = .returned (.slice none 0 0) ∧ Below w.heap.size w w' := by
  have hb1 : Below w.heap.size w (w.alloc (.cells #[.pointer rp] 58)) := (Below.refl _ _).alloc (Nat.le_refl _) _
  have hf1 := fault_st rp s _ (hs.below hb1)
  have hne : ((s.2 : Int) == 0) = false := by simp; omega
  clear hf hs
  generalize s.2 = f at *
  go_enter_defers Try.func63, Try.ntmps63
  go_wp2_with fail
  refine hf1.mono ?_
  rintro e w' ⟨rfl, hq⟩
  have hq2 := hq.symm
  subst hq2
  clear hq hf1
  go_wp2_with fail
  simp [bodyPostD, Leaves, results, Try.results63, go_sem]
  exact hb1

set_option maxRecDepth 100000 in
set_option maxHeartbeats 400000 in
theorem intC (base g L H : Nat) (low high : Int) (bs : List Nat) (w : World) (hc : Cur w base g bs) (h8 : All8 bs) (hL : w.cell? ⟨L, 0, none⟩ = some (.int .i64 low)) (hH : w.cell? ⟨H, 0, none⟩ = some (.int .i64 high))
    (hl1 : -9223372036854775808 ≤ low) (hl2 : low ≤ 9223372036854775807) (hh1 : -9223372036854775808 ≤ high) (hh2 : high ≤ 9223372036854775807) :
    Calls Try.prog 61 #[.pointer (some ⟨g, 0, none⟩), .pointer (some ⟨L, 0, none⟩), .pointer (some ⟨H, 0, none⟩)] w fun e w' => Took (fun n => .int .i64 n) base g w (takeShort low high bs) e w' := by
  have hs := short_any base g low high bs w hc h8 hl1 hl2 hh1 hh2
  obtain ⟨R, hR⟩ : ∃ R, R = takeShort low high bs := ⟨_, rfl⟩
  rw [← hR] at hs ⊢
  clear hR hc
  go_enter Try.func61, Try.ntmps61
  go_wp2_with fail
  refine hs.mono ?_
  intro e w1 ht
  cases R with
  | error c =>
    obtain ⟨rfl, hb⟩ := ht
    go_wp2_with fail
    exact ⟨rfl, rfl, hb⟩
  | ok x =>
    obtain ⟨v, t⟩ := x
    obtain ⟨rfl, hcur, hb⟩ := ht
    have HC := hide_it hcur
    clear hcur hs
    go_wp2_with fail
    go_ret
    exact ⟨rfl, HC.out, hb⟩

set_option maxRecDepth 100000 in
set_option maxHeartbeats 400000 in
theorem int_any (rp : Option Addr) (low high : Int) (s : List Nat × Nat) (w : World) (hs : Rst w rp s) (hl1 : -9223372036854775808 ≤ low) (hl2 : low ≤ 9223372036854775807) (hh1 : -9223372036854775808 ≤ high) (hh2 : high ≤ 9223372036854775807) :
    Calls Try.prog 48 #[.pointer rp, .int .i64 low, .int .i64 high] w fun e w' => Read (fun n => .int .i64 n) rp w (rdOf 0 (takeShort low high) s) e w' := by
  have hmf : ∀ (fn : Fn) (first cap : Array Value) (w : World), (Instr.makeFunc fn first cap).run Try.prog w = .ok (.func fn first cap) w := fun _ _ _ _ => rfl
  have hb1 : Below w.heap.size w (w.alloc (.cells #[.int .i64 low] 3)) := (Below.refl _ _).alloc (Nat.le_refl _) _
  have hb2 : Below w.heap.size w ((w.alloc (.cells #[.int .i64 low] 3)).alloc (.cells #[.int .i64 high] 3)) := hb1.alloc hb1.size _
  have hs2 := hs.below hb2
  have hcL : ((w.alloc (.cells #[.int .i64 low] 3)).alloc (.cells #[.int .i64 high] 3)).cell? ⟨w.heap.size, 0, none⟩ = some (.int .i64 low) := by
    rw [World.cell?_of_block (w := w.alloc (.cells #[.int .i64 low] 3)) (Below.heap_alloc _ _ _ (by simp)), cell_of_row _ _ _ _ _ _ (heap_alloc_new w _)]; rfl
  have hcH : ((w.alloc (.cells #[.int .i64 low] 3)).alloc (.cells #[.int .i64 high] 3)).cell? ⟨w.heap.size + 1, 0, none⟩ = some (.int .i64 high) := by
    have e := heap_alloc_new (w.alloc (.cells #[.int .i64 low] 3)) (.cells #[.int .i64 high] 3)
    simp only [World.size_alloc] at e
    rw [cell_of_row _ _ _ _ _ _ e]; rfl
  have hx : Calls Try.prog 60 #[.pointer rp, .func (.func 61) #[] #[.pointer (some ⟨w.heap.size, 0, none⟩), .pointer (some ⟨w.heap.size + 1, 0, none⟩)]] ((w.alloc (.cells #[.int .i64 low] 3)).alloc (.cells #[.int .i64 high] 3)) fun e w' => Read (fun n => .int .i64 n) rp w (rdOf 0 (takeShort low high) s) e w' := by
    by_cases hf : s.2 = 0
    · rcases hs2 with ⟨_, rfl⟩ | ⟨p, rfl, h2, h8⟩
      · cases hf
      · obtain ⟨bs, f⟩ := s
        cases hf
        refine (readingI p w.heap.size (w.heap.size + 1) bs _ (takeShort low high bs) h2 (fun w2 g hb hc => intC _ g _ _ low high bs w2 hc h8 ?_ ?_ hl1 hl2 hh1 hh2)).mono fun e w' h => (Read.of_red (zero := 0) h h8 (fun x t e => takeShort_all e h8)).pre hb2
        · rw [hb.cell (p := ⟨w.heap.size, 0, none⟩) (by simp; omega)]; exact hcL
        · rw [hb.cell (p := ⟨w.heap.size + 1, 0, none⟩) (by simp)]; exact hcH
    · exact (shutI rp _ _ s _ hs2 hf).mono fun e w' h => (Read.of_shut (zero := 0) hs2 hf h.1 h.2).pre hb2
  clear hs hs2 hcL hcH
  go_enter Try.func48, Try.ntmps48
  go_wp2_with fail
  refine hx.mono ?_
  rintro e w1 ⟨rfl, hk⟩
  go_wp2_with fail
  go_ret
  exact ⟨rfl, hk⟩

theorem Cur.lt {w : World} {base g : Nat} {bs : List Nat} (h : Cur w base g bs) : g < w.heap.size := by
  obtain ⟨_, a, cap, hh, _⟩ := h
  exact (Array.getElem?_eq_some_iff.1 hh).1

theorem Cur.below {w w' : World} {base g : Nat} {bs : List Nat} (h : Cur w base g bs) (hb : Below w.heap.size w w') : Cur w' base g bs := by
  have hlt := h.lt
  obtain ⟨hg, a, cap, hh, hr, h1⟩ := h
  refine ⟨hg, a, cap, by rw [hb.block g hlt]; exact hh, ?_, h1⟩
  rcases hr with h | ⟨b, o, e, h2, h3, h4⟩
  · exact .inl h
  · exact .inr ⟨b, o, e, h2, Nat.lt_of_lt_of_le h3 hb.size, fun i hi => by rw [hb.cell (p := ⟨b, o + i, none⟩) h3]; exact h4 i hi⟩

theorem takeCounted_all {most : Int} {bs : List Nat} (h8 : All8 bs) : ∀ x t, takeCounted most bs = .ok (x, t) → All8 t := fun x t h => by
  unfold takeCounted at h
  split at h
  · cases h
  · next e =>
    split at h
    · cases h
    · cases h; exact (takeShort_all e h8).drop _

theorem takeCounted_len {most : Int} {bs p t : List Nat} (h : takeCounted most bs = .ok (p, t)) : p.length ≤ bs.length ∧ p.length + t.length ≤ bs.length := by
  have hs : ∀ n s, takeShort 0 most bs = .ok (n, s) → s.length ≤ bs.length := fun n s hs => by
    unfold takeShort at hs
    split at hs
    · cases hs
    · split at hs
      · cases hs
      · next e =>
        split at hs
        · cases hs
        · cases hs; exact groups_len bs 0 0 e
  unfold takeCounted at h
  split at h
  · cases h
  · next e =>
    split at h
    · cases h
    · have := hs _ _ e
      cases h; simp; omega

set_option maxRecDepth 100000 in
set_option maxHeartbeats 400000 in
theorem textC (base g L : Nat) (most : Int) (bs : List Nat) (w : World) (hc : Cur w base g bs) (h8 : All8 bs) (hL : w.cell? ⟨L, 0, none⟩ = some (.int .i64 most)) (hl1 : -9223372036854775808 ≤ most) (hl2 : most ≤ 9223372036854775807) :
    Calls Try.prog 58 #[.pointer (some ⟨g, 0, none⟩), .pointer (some ⟨L, 0, none⟩)] w fun e w' => Took (fun p => .string (strOf p)) base g w (takeCounted most bs) e w' := by
  have hs := counted_any base g most bs w hc h8 hl1 hl2
  obtain ⟨R, hR⟩ : ∃ R, R = takeCounted most bs := ⟨_, rfl⟩
  rw [← hR] at hs ⊢
  clear hR hc
  go_enter Try.func58, Try.ntmps58
  go_wp2_with fail
  refine hs.mono ?_
  rintro e w1 (⟨c, rfl, rfl, hb⟩ | ⟨p, t, a, cap, rfl, rfl, hr, hna, hcur, hb⟩)
  · go_wp2_with fail
    exact ⟨rfl, rfl, hb⟩
  · have hcv := conv_row (cap := cap) hr.row hna
    have HC := hide_it hcur
    clear hcur hs
    go_wp2_with fail
    go_ret
    exact ⟨rfl, HC.out, hb⟩

set_option maxRecDepth 100000 in
set_option maxHeartbeats 1000000 in
theorem readingS (p : Nat) (L : Nat) (bs : List Nat) (w : World) (R : Except Nat (List Nat × List Nat)) (hr : Rdr w p bs 0)
    (htake : ∀ (w2 : World) (g : Nat), Below w.heap.size w w2 → Cur w2 (w.heap.size + 1) g bs → Calls Try.prog 58 #[.pointer (some ⟨g, 0, none⟩), .pointer (some ⟨L, 0, none⟩)] w2 fun e w' => Took (fun p => .string (strOf p)) (w.heap.size + 1) g w2 R e w') :
    Calls Try.prog 57 #[.pointer (some ⟨p, 0, none⟩), .func (.func 58) #[] #[.pointer (some ⟨L, 0, none⟩)]] w fun e w' => Red (fun p => .string (strOf p)) (.string ⟨#[]⟩) p bs w R e w' := by
  have hmf : ∀ (fn : Fn) (first cap : Array Value) (w : World), (Instr.makeFunc fn first cap).run Try.prog w = .ok (.func fn first cap) w := fun _ _ _ _ => rfl
  have hb1 : Below w.heap.size w (w.alloc (.cells #[.pointer (some ⟨p, 0, none⟩)] 58)) := (Below.refl _ _).alloc (Nat.le_refl _) _
  have hp0 := hr.1
  have hr1 := hr.below hb1
  have hf1 := fault_any p bs 0 _ hr1
  have hr2 := hr1.below ((Below.refl _ _).alloc (Nat.le_refl _) (.cells #[.pointer (some ⟨p, 0, none⟩)] 58))
  have hrr := hr
  obtain ⟨_, a, cap, hh, hrow, hl, hm, hnil⟩ := hr
  have hc0 : (w.alloc (.cells #[.pointer (some ⟨p, 0, none⟩)] 58)).cell? ⟨p, 0, none⟩ = some (.slice a bs.length cap) := by rw [cell_of_row _ _ _ _ _ _ (by rw [hb1.block p hp0]; exact hh)]; rfl
  have hcb : (w.alloc (.cells #[.pointer (some ⟨p, 0, none⟩)] 58)).cell? ⟨w.heap.size, 0, none⟩ = some (.pointer (some ⟨p, 0, none⟩)) := by rw [cell_of_row _ _ _ _ _ _ (heap_alloc_new w _)]; rfl
  have hb2 : Below w.heap.size w ((w.alloc (.cells #[.pointer (some ⟨p, 0, none⟩)] 58)).alloc (.cells #[.slice a bs.length cap] 89)) := hb1.alloc hb1.size _
  have hcur2 : Cur ((w.alloc (.cells #[.pointer (some ⟨p, 0, none⟩)] 58)).alloc (.cells #[.slice a bs.length cap] 89)) (w.heap.size + 1) (w.heap.size + 1) bs := by
    refine ⟨Nat.le_refl _, a, cap, ?_, ?_, hl, hm, hnil⟩
    · have e := heap_alloc_new (w.alloc (.cells #[.pointer (some ⟨p, 0, none⟩)] 58)) (.cells #[.slice a bs.length cap] 89)
      simp only [World.size_alloc] at e
      exact e
    · rcases hrow with h | ⟨b, o, e, hlt, hc⟩
      · exact .inl h
      · exact .inr ⟨b, o, e, by omega, Nat.lt_of_lt_of_le hlt hb2.size, fun i hi => by rw [hb2.cell (p := ⟨b, o + i, none⟩) hlt]; exact hc i hi⟩
  have ht := htake _ (w.heap.size + 1) hb2 hcur2
  have hcb2 : ((w.alloc (.cells #[.pointer (some ⟨p, 0, none⟩)] 58)).alloc (.cells #[.slice a bs.length cap] 89)).cell? ⟨w.heap.size, 0, none⟩ = some (.pointer (some ⟨p, 0, none⟩)) := by
    rw [World.cell?_of_block (w := w.alloc (.cells #[.pointer (some ⟨p, 0, none⟩)] 58)) (Below.heap_alloc _ _ _ (by simp))]; exact hcb
  have HCB2 := hide_it hcb2
  clear hcur2 htake hrow hh hcb2
  go_enter_defers Try.func57, Try.ntmps57
  go_wp2_with (go_at_call 50; refine hf1.mono ?_; rintro e w' ⟨rfl, hq⟩; have hq2 := hq.symm; subst hq2; clear hq)
  refine ht.mono ?_
  intro e w3 hk
  clear ht hf1 hc0 hcb hr1 hr2
  cases R with
  | error c =>
    obtain ⟨rfl, hb3⟩ := hk
    have hbw := hb2.trans (hb3.mono (by omega))
    have hr3 := hrr.below hbw
    obtain ⟨q1, q2, q3, _⟩ := hr3.cell1
    have hcb3 : w3.cell? ⟨w.heap.size, 0, none⟩ = some (.pointer (some ⟨p, 0, none⟩)) := (hb3.cell (p := ⟨w.heap.size, 0, none⟩) (by simp)).trans HCB2.out
    go_wp2_with fail
    refine leaves_cons (f := 67) (args := #[.pointer (some ⟨w.heap.size, 0, none⟩)]) (by simp) (by simp [go_sem]) ?_
    refine (catchPS w.heap.size p 0 (c : Int) [] _ hcb3 q1 q2).mono ?_
    rintro e u' w'' ⟨rfl, rfl, rfl⟩
    simp [Leaves, settle, results, Try.results57, go_sem]
    exact ⟨grown_setCell (grown_of_below hbw p) _ _, rfl, hr3.setFault c⟩
  | ok x =>
    obtain ⟨x, t⟩ := x
    obtain ⟨rfl, hcur, hb3⟩ := hk
    have hbw := hb2.trans (hb3.mono (by omega))
    have hr3 := hrr.below hbw
    obtain ⟨q1, q2, q3, v0, q4⟩ := hr3.cell1
    have hcb3 : w3.cell? ⟨w.heap.size, 0, none⟩ = some (.pointer (some ⟨p, 0, none⟩)) := (hb3.cell (p := ⟨w.heap.size, 0, none⟩) (by simp)).trans HCB2.out
    obtain ⟨_, a', cap', hh', hrow', hl', hm', hnil'⟩ := hcur
    have hc3 : w3.cell? ⟨w.heap.size + 1, 0, none⟩ = some (.slice a' t.length cap') := by rw [cell_of_row _ _ _ _ _ _ hh']; rfl
    have HR := hide_it hrow'.row
    clear hh' hrow'
    go_wp2_with fail
    refine leaves_cons (f := 67) (args := #[.pointer (some ⟨w.heap.size, 0, none⟩)]) (by simp) (by simp [go_sem]) ?_
    refine (catchIS w.heap.size _).mono ?_
    rintro e u' w'' ⟨rfl, rfl, rfl⟩
    simp [Leaves, settle, results, Try.results57, go_sem]
    exact ⟨grown_setCell (grown_of_below hbw p) _ _, rfl, hr3.setRest HR.out hl' hm' hnil'⟩

/-- What comes of taking bytes: they lie in new memory. -/
def TookB (base g : Nat) (w : World) (r : Except Nat (List Nat × List Nat)) (e : Ending) (w' : World) : Prop :=
  match r with
  | .error c => e = .panicked [{ v := .iface 31 (.int .i64 (c : Int)), recovered := false }] ∧ Below base w w'
  | .ok (p, t) => ∃ v, e = .returned v ∧ OwnB w' base v p ∧ Cur w' base g t ∧ Below base w w'

/-- What comes of reading bytes. -/
def RedB (p : Nat) (bs : List Nat) (w : World) (r : Except Nat (List Nat × List Nat)) (e : Ending) (w' : World) : Prop :=
  w.grownBy w' (some p) ∧
  match r with
  | .error c => (∃ v, e = .returned v ∧ OwnB w' w.heap.size v []) ∧ Rdr w' p bs c
  | .ok (x, t) => (∃ v, e = .returned v ∧ OwnB w' w.heap.size v x) ∧ Rdr w' p t 0

set_option maxRecDepth 100000 in
set_option maxHeartbeats 1000000 in
theorem readingB (p : Nat) (L : Nat) (bs : List Nat) (w : World) (R : Except Nat (List Nat × List Nat)) (hr : Rdr w p bs 0)
    (htake : ∀ (w2 : World) (g : Nat), Below w.heap.size w w2 → Cur w2 (w.heap.size + 1) g bs → Calls Try.prog 64 #[.pointer (some ⟨g, 0, none⟩), .pointer (some ⟨L, 0, none⟩)] w2 fun e w' => TookB (w.heap.size + 1) g w2 R e w') :
    Calls Try.prog 63 #[.pointer (some ⟨p, 0, none⟩), .func (.func 64) #[] #[.pointer (some ⟨L, 0, none⟩)]] w fun e w' => RedB p bs w R e w' := by
  have hmf : ∀ (fn : Fn) (first cap : Array Value) (w : World), (Instr.makeFunc fn first cap).run Try.prog w = .ok (.func fn first cap) w := fun _ _ _ _ => rfl
  have hb1 : Below w.heap.size w (w.alloc (.cells #[.pointer (some ⟨p, 0, none⟩)] 58)) := (Below.refl _ _).alloc (Nat.le_refl _) _
  have hp0 := hr.1
  have hr1 := hr.below hb1
  have hf1 := fault_any p bs 0 _ hr1
  have hr2 := hr1.below ((Below.refl _ _).alloc (Nat.le_refl _) (.cells #[.pointer (some ⟨p, 0, none⟩)] 58))
  have hrr := hr
  obtain ⟨_, a, cap, hh, hrow, hl, hm, hnil⟩ := hr
  have hc0 : (w.alloc (.cells #[.pointer (some ⟨p, 0, none⟩)] 58)).cell? ⟨p, 0, none⟩ = some (.slice a bs.length cap) := by rw [cell_of_row _ _ _ _ _ _ (by rw [hb1.block p hp0]; exact hh)]; rfl
  have hcb : (w.alloc (.cells #[.pointer (some ⟨p, 0, none⟩)] 58)).cell? ⟨w.heap.size, 0, none⟩ = some (.pointer (some ⟨p, 0, none⟩)) := by rw [cell_of_row _ _ _ _ _ _ (heap_alloc_new w _)]; rfl
  have hb2 : Below w.heap.size w ((w.alloc (.cells #[.pointer (some ⟨p, 0, none⟩)] 58)).alloc (.cells #[.slice a bs.length cap] 89)) := hb1.alloc hb1.size _
  have hcur2 : Cur ((w.alloc (.cells #[.pointer (some ⟨p, 0, none⟩)] 58)).alloc (.cells #[.slice a bs.length cap] 89)) (w.heap.size + 1) (w.heap.size + 1) bs := by
    refine ⟨Nat.le_refl _, a, cap, ?_, ?_, hl, hm, hnil⟩
    · have e := heap_alloc_new (w.alloc (.cells #[.pointer (some ⟨p, 0, none⟩)] 58)) (.cells #[.slice a bs.length cap] 89)
      simp only [World.size_alloc] at e
      exact e
    · rcases hrow with h | ⟨b, o, e, hlt, hc⟩
      · exact .inl h
      · exact .inr ⟨b, o, e, by omega, Nat.lt_of_lt_of_le hlt hb2.size, fun i hi => by rw [hb2.cell (p := ⟨b, o + i, none⟩) hlt]; exact hc i hi⟩
  have ht := htake _ (w.heap.size + 1) hb2 hcur2
  have hcb2 : ((w.alloc (.cells #[.pointer (some ⟨p, 0, none⟩)] 58)).alloc (.cells #[.slice a bs.length cap] 89)).cell? ⟨w.heap.size, 0, none⟩ = some (.pointer (some ⟨p, 0, none⟩)) := by
    rw [World.cell?_of_block (w := w.alloc (.cells #[.pointer (some ⟨p, 0, none⟩)] 58)) (Below.heap_alloc _ _ _ (by simp))]; exact hcb
  have HCB2 := hide_it hcb2
  clear hcur2 htake hrow hh hcb2
  go_enter_defers Try.func63, Try.ntmps63
  go_wp2_with (go_at_call 50; refine hf1.mono ?_; rintro e w' ⟨rfl, hq⟩; have hq2 := hq.symm; subst hq2; clear hq)
  refine ht.mono ?_
  intro e w3 hk
  clear ht hf1 hc0 hcb hr1 hr2
  cases R with
  | error c =>
    obtain ⟨rfl, hb3⟩ := hk
    have hbw := hb2.trans (hb3.mono (by omega))
    have hr3 := hrr.below hbw
    obtain ⟨q1, q2, q3, _⟩ := hr3.cell1
    have hcb3 : w3.cell? ⟨w.heap.size, 0, none⟩ = some (.pointer (some ⟨p, 0, none⟩)) := (hb3.cell (p := ⟨w.heap.size, 0, none⟩) (by simp)).trans HCB2.out
    go_wp2_with fail
    refine leaves_cons (f := 71) (args := #[.pointer (some ⟨w.heap.size, 0, none⟩)]) (by simp) (by simp [go_sem]) ?_
    refine (catchPB w.heap.size p 0 (c : Int) [] _ hcb3 q1 q2).mono ?_
    rintro e u' w'' ⟨rfl, rfl, rfl⟩
    simp [Leaves, settle, results, Try.results63, go_sem]
    exact ⟨grown_setCell (grown_of_below hbw p) _ _, ⟨_, rfl, World.ownsRow_nil _ _ _ _⟩, hr3.setFault c⟩
  | ok x =>
    obtain ⟨x, t⟩ := x
    obtain ⟨v9, rfl, hown9, hcur, hb3⟩ := hk
    have HOWN := hide_it hown9
    clear hown9
    have hbw := hb2.trans (hb3.mono (by omega))
    have hr3 := hrr.below hbw
    obtain ⟨q1, q2, q3, v0, q4⟩ := hr3.cell1
    have hcb3 : w3.cell? ⟨w.heap.size, 0, none⟩ = some (.pointer (some ⟨p, 0, none⟩)) := (hb3.cell (p := ⟨w.heap.size, 0, none⟩) (by simp)).trans HCB2.out
    obtain ⟨_, a', cap', hh', hrow', hl', hm', hnil'⟩ := hcur
    have hc3 : w3.cell? ⟨w.heap.size + 1, 0, none⟩ = some (.slice a' t.length cap') := by rw [cell_of_row _ _ _ _ _ _ hh']; rfl
    have HR := hide_it hrow'.row
    clear hh' hrow'
    go_wp2_with fail
    refine leaves_cons (f := 71) (args := #[.pointer (some ⟨w.heap.size, 0, none⟩)]) (by simp) (by simp [go_sem]) ?_
    refine (catchIB w.heap.size _).mono ?_
    rintro e u' w'' ⟨rfl, rfl, rfl⟩
    simp [Leaves, settle, results, Try.results63, go_sem]
    exact ⟨grown_setCell (grown_of_below hbw p) _ _, ⟨_, rfl, (HOWN.out.mono (by omega)).set_old hp0 _ _⟩, hr3.setRest HR.out hl' hm' hnil'⟩

theorem takeCounted_most {most : Int} {bs p t : List Nat} (h : takeCounted most bs = .ok (p, t)) : (p.length : Int) ≤ most := by
  unfold takeCounted at h
  split at h
  · cases h
  · next e =>
    split at h
    · cases h
    · cases h
      have := takeShort_nat e
      rw [List.length_take]; omega

set_option maxRecDepth 100000 in
set_option maxHeartbeats 400000 in
theorem bytesC (base g L : Nat) (most : Int) (bs : List Nat) (w : World) (hc : Cur w base g bs) (h8 : All8 bs) (hbs : most ≤ 140737488355328) (hbw : base ≤ w.heap.size) (hL : w.cell? ⟨L, 0, none⟩ = some (.int .i64 most)) (hl1 : -9223372036854775808 ≤ most) (hl2 : most ≤ 9223372036854775807) :
    Calls Try.prog 64 #[.pointer (some ⟨g, 0, none⟩), .pointer (some ⟨L, 0, none⟩)] w fun e w' => TookB base g w (takeCounted most bs) e w' := by
  have hs := counted_any base g most bs w hc h8 hl1 hl2
  have hgl := hc.lt
  obtain ⟨R, hR⟩ : ∃ R, R = takeCounted most bs := ⟨_, rfl⟩
  have hlen := fun p t => takeCounted_most (most := most) (bs := bs) (p := p) (t := t)
  rw [← hR] at hs hlen ⊢
  clear hR hc
  go_enter Try.func64, Try.ntmps64
  go_wp2_with fail
  refine hs.mono ?_
  rintro e w1 (⟨c, rfl, rfl, hb⟩ | ⟨p, t, a, cap, rfl, rfl, hr, hna, hcur, hb⟩)
  · go_wp2_with fail
    exact ⟨rfl, rfl, hb⟩
  · have hpl := hlen p t rfl
    have hcl := clone_any a cap p w1 hr.row (by omega) hna
    have HC := hide_it hcur
    clear hcur hs hlen
    go_wp2_with fail
    refine hcl.mono ?_
    rintro e w2 ⟨⟨v, rfl, hown⟩, hb2⟩
    go_wp2_with fail
    go_ret
    have hsz := Nat.le_trans hbw hb.size
    exact ⟨_, rfl, hown.mono hsz, HC.out.below hb2, hb.trans (hb2.mono hsz)⟩

/-- What comes of a reading of bytes: they lie in new memory. -/
def ReadB (rp : Option Addr) (w : World) (r : List Nat × (List Nat × Nat)) (e : Ending) (w' : World) : Prop :=
  (∃ v, e = .returned v ∧ OwnB w' w.heap.size v r.1) ∧ Rst w' rp r.2 ∧ w.grownBy w' (rp.map (·.block))

theorem ReadB.pre {rp : Option Addr} {w w1 w' : World} {r : List Nat × (List Nat × Nat)} {e : Ending} (hb : Below w.heap.size w w1) (h : ReadB rp w1 r e w') : ReadB rp w r e w' := by
  obtain ⟨⟨v, h1, h2⟩, h3, h4⟩ := h
  exact ⟨⟨v, h1, h2.mono hb.size⟩, h3, grown_pre hb h4⟩

theorem ReadB.of_shut {take : List Nat → Except Nat (List Nat × List Nat)} {rp : Option Addr} {s : List Nat × Nat} {w w' : World} {e : Ending} (hs : Rst w rp s) (hf : s.2 ≠ 0) (he : e = .returned (.slice none 0 0)) (hb : Below w.heap.size w w') : ReadB rp w (rdOf [] take s) e w' := by
  have e1 : rdOf [] take s = ([], s) := if_pos hf
  rw [e1]
  exact ⟨⟨_, he, World.ownsRow_nil _ _ _ _⟩, hs.below hb, hb.os, hb.tape, hb.output, hb.size, fun k hk _ => hb.block k hk⟩

theorem ReadB.of_red {take : List Nat → Except Nat (List Nat × List Nat)} {p : Nat} {bs : List Nat} {w w' : World} {e : Ending} (h : RedB p bs w (take bs) e w') (h8 : All8 bs) (h8' : ∀ x t, take bs = .ok (x, t) → All8 t) : ReadB (some ⟨p, 0, none⟩) w (rdOf [] take (bs, 0)) e w' := by
  obtain ⟨hg, h⟩ := h
  unfold rdOf
  rw [if_neg (by simp)]
  cases ht : take bs with
  | error c => rw [ht] at h; exact ⟨h.1, .inr ⟨p, rfl, h.2, h8⟩, hg⟩
  | ok x =>
    obtain ⟨x, t⟩ := x
    rw [ht] at h; exact ⟨h.1, .inr ⟨p, rfl, h.2, h8' x t ht⟩, hg⟩

set_option maxRecDepth 100000 in
set_option maxHeartbeats 400000 in
theorem text_any (rp : Option Addr) (most : Int) (s : List Nat × Nat) (w : World) (hs : Rst w rp s) (hl1 : -9223372036854775808 ≤ most) (hl2 : most ≤ 9223372036854775807) :
    Calls Try.prog 47 #[.pointer rp, .int .i64 most] w fun e w' => Read (fun p => .string (strOf p)) rp w (rdOf [] (takeCounted most) s) e w' := by
  have hmf : ∀ (fn : Fn) (first cap : Array Value) (w : World), (Instr.makeFunc fn first cap).run Try.prog w = .ok (.func fn first cap) w := fun _ _ _ _ => rfl
  have hb1 : Below w.heap.size w (w.alloc (.cells #[.int .i64 most] 3)) := (Below.refl _ _).alloc (Nat.le_refl _) _
  have hs2 := hs.below hb1
  have hcL : (w.alloc (.cells #[.int .i64 most] 3)).cell? ⟨w.heap.size, 0, none⟩ = some (.int .i64 most) := by rw [cell_of_row _ _ _ _ _ _ (heap_alloc_new w _)]; rfl
  have hx : Calls Try.prog 57 #[.pointer rp, .func (.func 58) #[] #[.pointer (some ⟨w.heap.size, 0, none⟩)]] (w.alloc (.cells #[.int .i64 most] 3)) fun e w' => Read (fun p => .string (strOf p)) rp w (rdOf [] (takeCounted most) s) e w' := by
    by_cases hf : s.2 = 0
    · rcases hs2 with ⟨_, rfl⟩ | ⟨p, rfl, h2, h8⟩
      · cases hf
      · obtain ⟨bs, f⟩ := s
        cases hf
        refine (readingS p w.heap.size bs _ (takeCounted most bs) h2 (fun w2 g hb hc => textC _ g _ most bs w2 hc h8 ?_ hl1 hl2)).mono fun e w' h => (Read.of_red (zero := []) h h8 (takeCounted_all h8)).pre hb1
        · rw [hb.cell (p := ⟨w.heap.size, 0, none⟩) (by simp)]; exact hcL
    · exact (shutS rp _ _ s _ hs2 hf).mono fun e w' h => (Read.of_shut (zero := []) hs2 hf h.1 h.2).pre hb1
  clear hs hs2 hcL
  go_enter Try.func47, Try.ntmps47
  go_wp2_with fail
  refine hx.mono ?_
  rintro e w1 ⟨rfl, hk⟩
  go_wp2_with fail
  go_ret
  exact ⟨rfl, hk⟩

set_option maxRecDepth 100000 in
set_option maxHeartbeats 400000 in
theorem bytes_any (rp : Option Addr) (most : Int) (s : List Nat × Nat) (w : World) (hs : Rst w rp s) (hbs : most ≤ 140737488355328) (hl1 : -9223372036854775808 ≤ most) (hl2 : most ≤ 9223372036854775807) :
    Calls Try.prog 49 #[.pointer rp, .int .i64 most] w fun e w' => ReadB rp w (rdOf [] (takeCounted most) s) e w' := by
  have hmf : ∀ (fn : Fn) (first cap : Array Value) (w : World), (Instr.makeFunc fn first cap).run Try.prog w = .ok (.func fn first cap) w := fun _ _ _ _ => rfl
  have hb1 : Below w.heap.size w (w.alloc (.cells #[.int .i64 most] 3)) := (Below.refl _ _).alloc (Nat.le_refl _) _
  have hs2 := hs.below hb1
  have hcL : (w.alloc (.cells #[.int .i64 most] 3)).cell? ⟨w.heap.size, 0, none⟩ = some (.int .i64 most) := by rw [cell_of_row _ _ _ _ _ _ (heap_alloc_new w _)]; rfl
  have hx : Calls Try.prog 63 #[.pointer rp, .func (.func 64) #[] #[.pointer (some ⟨w.heap.size, 0, none⟩)]] (w.alloc (.cells #[.int .i64 most] 3)) fun e w' => ReadB rp w (rdOf [] (takeCounted most) s) e w' := by
    by_cases hf : s.2 = 0
    · rcases hs2 with ⟨_, rfl⟩ | ⟨p, rfl, h2, h8⟩
      · cases hf
      · obtain ⟨bs, f⟩ := s
        cases hf
        refine (readingB p w.heap.size bs _ (takeCounted most bs) h2 (fun w2 g hb hc => bytesC _ g _ most bs w2 hc h8 hbs ?_ ?_ hl1 hl2)).mono fun e w' h => (ReadB.of_red  h h8 (takeCounted_all h8)).pre hb1
        · exact Nat.le_trans hc.1 (Nat.le_of_lt hc.lt)
        · rw [hb.cell (p := ⟨w.heap.size, 0, none⟩) (by simp)]; exact hcL
    · exact (shutB rp _ _ s _ hs2 hf).mono fun e w' h => (ReadB.of_shut  hs2 hf h.1 h.2).pre hb1
  clear hs hs2 hcL
  go_enter Try.func49, Try.ntmps49
  go_wp2_with fail
  refine hx.mono ?_
  rintro e w1 ⟨⟨v, rfl, hv⟩, hk⟩
  go_wp2_with fail
  go_ret
  exact ⟨⟨_, rfl, hv⟩, hk⟩

theorem Rst.all {w : World} {rp : Option Addr} {s : List Nat × Nat} (h : Rst w rp s) : All8 s.1 := by
  rcases h with ⟨_, rfl⟩ | ⟨p, _, _, h⟩
  · intro z hz; cases hz
  · exact h

theorem rdFixed_lt {W : Nat} {s : List Nat × Nat} (h8 : All8 s.1) : (rdOf 0 (takeFixed W) s).1 < 256 ^ W := by
  unfold rdOf
  split
  · exact Nat.pow_pos (by decide)
  · cases ht : takeFixed W s.1 with
    | error c => exact Nat.pow_pos (by decide)
    | ok x => obtain ⟨x, t⟩ := x; exact takeFixed_lt h8 ht

theorem rdCounted_all {most : Int} {s : List Nat × Nat} (h8 : All8 s.1) : All8 (rdOf [] (takeCounted most) s).1 := by
  unfold rdOf
  split
  · intro z hz; cases hz
  · cases ht : takeCounted most s.1 with
    | error c => intro z hz; cases hz
    | ok x =>
      obtain ⟨x, t⟩ := x
      unfold takeCounted at ht
      split at ht
      · cases ht
      · next e =>
        split at ht
        · cases ht
        · cases ht; exact (takeShort_all e h8).take _

theorem Rst.grown {w w' : World} {rp : Option Addr} {s : List Nat × Nat} (h : Rst w rp s) (hg : w.grownBy w' none) : Rst w' rp s :=
  h.below ⟨hg.os, hg.tape, hg.output, hg.size, fun k hk => hg.block k hk (by simp)⟩

end Go.Proofs.Ytlhlpofmeeiffab
