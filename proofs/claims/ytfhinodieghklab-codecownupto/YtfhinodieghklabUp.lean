/- A reader that was opened has bytes of its own. -/
import Derived.Test.YtfhinodieghklabTwo
namespace Go.Proofs.Ytfhinodieghklab
open Go.RowKit

/-- The reader at p, and its bytes, lie from the block B on. -/
def Up (B : Nat) (w : World) (p : Nat) (s : List Nat × Nat) : Prop :=
  ∀ w' : World, w.heap.size ≤ w'.heap.size → (∀ k, B ≤ k → k < w.heap.size → w'.heap[k]? = w.heap[k]?) → Rst w' (some ⟨p, 0, none⟩) s

theorem RowB.up {w w' : World} {B : Nat} {a : Option Addr} {zs : List Nat} (h : RowB w a zs) (hge : ∀ b o, a = some ⟨b, o, none⟩ → B ≤ b) (hs : w.heap.size ≤ w'.heap.size) (hk : ∀ k, B ≤ k → k < w.heap.size → w'.heap[k]? = w.heap[k]?) : RowB w' a zs := by
  rcases h with h | ⟨b, o, e, hlt, hc⟩
  · exact .inl h
  · exact .inr ⟨b, o, e, Nat.lt_of_lt_of_le hlt hs, fun i hi => by rw [World.cell?_of_block (w := w) (hk b (hge b o e) hlt)]; exact hc i hi⟩

set_option maxRecDepth 100000 in
set_option maxHeartbeats 400000 in
theorem open_own (a : Option Addr) (cap : Nat) (zs : List Nat) (w : World) (hr : RowB w a zs) (h8 : All8 zs) (hl : zs.length ≤ 140737488355328) (hnil : a = none → zs.length = 0 ∧ cap = 0) :
    Calls Try.prog 10 #[.slice a zs.length cap] w fun e w' => ∃ p, e = .returned (.pointer (some ⟨p, 0, none⟩)) ∧ w.heap.size ≤ p ∧ p < w'.heap.size ∧ Up w.heap.size w' p (zs, 0) ∧ Below w.heap.size w w' := by
  have hcl := clone_any a cap zs w hr hl hnil
  clear hr
  go_enter Try.func10, Try.ntmps10
  go_wp2_with fail
  refine hcl.mono ?_
  rintro e w1 ⟨⟨v, rfl, hown⟩, hb1⟩
  obtain ⟨a1, c1, rfl, hr1, h1, h2, h3⟩ := hown.row
  have hge : ∀ b o, a1 = some ⟨b, o, none⟩ → w.heap.size ≤ b := fun b o e => hown.ge (by rw [e]; rfl)
  have HR := hide_it hr1
  have hb2 : Below w1.heap.size w1 (w1.alloc (.cells #[.slice a1 zs.length c1, .int .i64 0] 64)) := (Below.refl _ _).alloc (Nat.le_refl _) _
  clear hcl hown hr1
  go_wp2_with fail
  go_ret
  refine ⟨w1.heap.size, rfl, hb1.size, by simp, fun w' hs hk => ?_, hb1.trans (hb2.mono hb1.size)⟩
  refine .inr ⟨w1.heap.size, rfl, ⟨Nat.lt_of_lt_of_le (by simp) hs, a1, c1, (hk _ hb1.size (by simp)).trans (heap_alloc_new w1 _), ?_, h1, h2, h3⟩, h8⟩
  exact (HR.out.below hb2).up hge hs hk

end Go.Proofs.Ytfhinodieghklab
