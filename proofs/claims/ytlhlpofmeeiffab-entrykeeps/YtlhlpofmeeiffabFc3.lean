/- A reader whatever it is: Take of one byte and of four. -/
import Derived.Test.YtlhlpofmeeiffabFc2
namespace Go.Proofs.Ytlhlpofmeeiffab
open Go.RowKit

/-- The reader that a pointer points to (none: a reader that is not there): the bytes left, the fault. -/
def Rst (w : World) (rp : Option Addr) (s : List Nat × Nat) : Prop := (rp = none ∧ s = ([], 1)) ∨ ∃ p, rp = some ⟨p, 0, none⟩ ∧ Rdr w p s.1 s.2 ∧ All8 s.1

theorem Rst.below {w w' : World} {rp : Option Addr} {s : List Nat × Nat} (h : Rst w rp s) (hb : Below w.heap.size w w') : Rst w' rp s := by
  rcases h with h | ⟨p, h1, h2, h3⟩
  · exact .inl h
  · exact .inr ⟨p, h1, h2.below hb, h3⟩

theorem Red.ret {A : Type} {val : A → Value} {zero : Value} {p : Nat} {bs : List Nat} {w w' : World} {r : Except Nat (A × List Nat)} {e : Ending} (h : Red val zero p bs w r e w') : ∃ v, e = .returned v := by
  obtain ⟨_, h⟩ := h
  cases r with
  | error c => exact ⟨_, h.1⟩
  | ok x => exact ⟨_, h.1⟩

theorem fault_st (rp : Option Addr) (s : List Nat × Nat) (w : World) (h : Rst w rp s) :
    Calls Try.prog 50 #[.pointer rp] w fun e w' => e = .returned (.int .i64 (s.2 : Int)) ∧ w' = w := by
  rcases h with ⟨rfl, rfl⟩ | ⟨p, rfl, h2, _⟩
  · exact fault_nil w
  · exact fault_any p s.1 s.2 w h2

/-- What a reading makes of a reader. -/
def rdOf {A : Type} (zero : A) (take : List Nat → Except Nat (A × List Nat)) (s : List Nat × Nat) : A × (List Nat × Nat) :=
  if s.2 ≠ 0 then (zero, s) else
  match take s.1 with
  | .error c => (zero, (s.1, c))
  | .ok (x, t) => (x, (t, 0))

/-- What comes of a reading: the answer; the reader behind it; of what was there the reader's block alone has turned. -/
def Read {A : Type} (val : A → Value) (rp : Option Addr) (w : World) (r : A × (List Nat × Nat)) (e : Ending) (w' : World) : Prop :=
  e = .returned (val r.1) ∧ Rst w' rp r.2 ∧ w.grownBy w' (rp.map (·.block))

theorem Read.of_shut {A : Type} {val : A → Value} {zero : A} {take : List Nat → Except Nat (A × List Nat)} {rp : Option Addr} {s : List Nat × Nat} {w w' : World} {e : Ending} (hs : Rst w rp s) (hf : s.2 ≠ 0) (he : e = .returned (val zero)) (hb : Below w.heap.size w w') : Read val rp w (rdOf zero take s) e w' := by
  have e1 : rdOf zero take s = (zero, s) := if_pos hf
  rw [e1]
  exact ⟨he, hs.below hb, hb.os, hb.tape, hb.output, hb.size, fun k hk _ => hb.block k hk⟩

theorem Read.of_red {A : Type} {val : A → Value} {zero : A} {take : List Nat → Except Nat (A × List Nat)} {p : Nat} {bs : List Nat} {w w' : World} {e : Ending} (h : Red val (val zero) p bs w (take bs) e w') (h8 : All8 bs) (h8' : ∀ x t, take bs = .ok (x, t) → All8 t) : Read val (some ⟨p, 0, none⟩) w (rdOf zero take (bs, 0)) e w' := by
  obtain ⟨hg, h⟩ := h
  unfold rdOf
  rw [if_neg (by simp)]
  cases ht : take bs with
  | error c => rw [ht] at h; exact ⟨h.1, .inr ⟨p, rfl, h.2, h8⟩, hg⟩
  | ok x =>
    obtain ⟨x, t⟩ := x
    rw [ht] at h; exact ⟨h.1, .inr ⟨p, rfl, h.2, h8' x t ht⟩, hg⟩

theorem grown_pre {w w1 w' : World} {r : Option Nat} (hb : Below w.heap.size w w1) (hg : w1.grownBy w' r) : w.grownBy w' r :=
  ⟨hg.os.trans hb.os, hg.tape.trans hb.tape, hg.output.trans hb.output, Nat.le_trans hb.size hg.size, fun k hk hne => (hg.block k (Nat.lt_of_lt_of_le hk hb.size) hne).trans (hb.block k hk)⟩

theorem Read.pre {A : Type} {val : A → Value} {rp : Option Addr} {w w1 w' : World} {r : A × (List Nat × Nat)} {e : Ending} (hb : Below w.heap.size w w1) (h : Read val rp w1 r e w') : Read val rp w r e w' :=
  ⟨h.1, h.2.1, grown_pre hb h.2.2⟩

theorem takeFixed_all {W : Nat} {bs : List Nat} (h8 : All8 bs) : ∀ x t, takeFixed W bs = .ok (x, t) → All8 t := fun x t h => by
  unfold takeFixed at h
  split at h
  · cases h
  · cases h; exact h8.drop W

set_option maxRecDepth 100000 in
set_option maxHeartbeats 400000 in
theorem shut8 (rp : Option Addr) (K : Nat) (caps : Array Value) (s : List Nat × Nat) (w : World) (hs : Rst w rp s) (hf : s.2 ≠ 0) :
    Calls Try.prog 54 #[.pointer rp, .func (.func K) #[] caps] w fun e w' => e = .returned (.int .u8 0) ∧ Below w.heap.size w w' := by
  have hb1 : Below w.heap.size w (w.alloc (.cells #[.pointer rp] 58)) := (Below.refl _ _).alloc (Nat.le_refl _) _
  have hf1 := fault_st rp s _ (hs.below hb1)
  have hne : ((s.2 : Int) == 0) = false := by simp; omega
  clear hf hs
  generalize s.2 = f at *
  go_enter_defers Try.func54, Try.ntmps54
  go_wp2_with fail
  refine hf1.mono ?_
  rintro e w' ⟨rfl, hq⟩
  have hq2 := hq.symm
  subst hq2
  clear hq hf1
  go_wp2_with fail
  simp [bodyPostD, Leaves, results, Try.results54, go_sem]
  exact hb1


set_option maxRecDepth 100000 in
set_option maxHeartbeats 400000 in
theorem take8 (rp : Option Addr) (s : List Nat × Nat) (w : World) (hs : Rst w rp s) :
    Calls Try.prog 46 #[.pointer rp] w fun e w' => Read (fun f => .int .u8 ((f : Nat) : Int)) rp w (rdOf 0 (takeFixed 1) s) e w' := by
  have hmf : ∀ (fn : Fn) (first cap : Array Value) (w : World), (Instr.makeFunc fn first cap).run Try.prog w = .ok (.func fn first cap) w := fun _ _ _ _ => rfl
  have hx : Calls Try.prog 54 #[.pointer rp, .func (.func 55) #[] #[]] w fun e w' => Read (fun f => .int .u8 ((f : Nat) : Int)) rp w (rdOf 0 (takeFixed 1) s) e w' := by
    by_cases hf : s.2 = 0
    · rcases hs with ⟨_, rfl⟩ | ⟨p, rfl, h2, h8⟩
      · cases hf
      · obtain ⟨bs, f⟩ := s
        cases hf
        exact (reading8 p bs w (takeFixed 1 bs) h2 (fun w2 g _ hc => takeC8 _ g bs w2 hc h8)).mono fun e w' h => Read.of_red (zero := 0) h h8 (takeFixed_all h8)
    · exact (shut8 rp _ _ s w hs hf).mono fun e w' h => Read.of_shut (zero := 0) hs hf h.1 h.2
  clear hs
  go_enter Try.func46, Try.ntmps46
  go_wp2_with fail
  refine hx.mono ?_
  rintro e w1 ⟨rfl, hk⟩
  go_wp2_with fail
  go_ret
  exact ⟨rfl, hk⟩


end Go.Proofs.Ytlhlpofmeeiffab
