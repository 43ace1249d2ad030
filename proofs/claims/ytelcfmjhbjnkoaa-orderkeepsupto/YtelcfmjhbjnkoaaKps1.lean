/- The marks that the law lays, and whether two items are the same. -/
import Derived.Test.YtelcfmjhbjnkoaaRf11
import Derived.Test.YtelcfmjhbjnkoaaOw17
namespace Go.Proofs.Ytelcfmjhbjnkoaa
open Go.RowKit

attribute [local go_sem] st_float st_complex fromBits toBits

/-- A mark. -/
def mark (n : Nat) : It := ⟨1000 + (n : Int), false, 0, 0, 0, 0, ⟨#[109, 97, 114, 107]⟩⟩

set_option maxRecDepth 100000 in
set_option maxHeartbeats 1000000 in
theorem marked_any (n : Nat) (w : World) (hn : n ≤ 1000000000) :
    Calls Try.prog 6 #[.int .i64 (n : Int)] w fun e w' => e = .returned (valI (mark n)) ∧ Below w.heap.size w w' := by
  go_enter Try.func6, Try.ntmps6
  go_wp2_with fail
  refine bodyPost_ret (ret_item rfl _ _ w.heap.size (mark n) rfl (BoxI.new w (mark n))) rfl ?_
  exact ⟨rfl, (Below.refl _ _).alloc (Nat.le_refl _) _⟩

set_option maxRecDepth 100000 in
set_option maxHeartbeats 1000000 in
theorem isMark_any (n : Nat) (w : World) (hn : n ≤ 1000000000) :
    Calls Try.prog 11 #[valI (mark n), .int .i64 (n : Int)] w fun e w' => e = .returned (.bool true) ∧ Below w.heap.size w w' := by
  have hb : Below w.heap.size w (w.alloc (.cells #[.int .i64 (1000 + (n : Int)), .bool false, .int .i64 0, .float .f64 0, .complex .f64 0 0, .string ⟨#[109, 97, 114, 107]⟩] 29)) := (Below.refl _ _).alloc (Nat.le_refl _) _
  have hd : (1000 + (n : Int) == 1000 + (n : Int)) = true := by simp
  unfold mark
  go_enter Try.func11, Try.ntmps11
  go_wp2_with fail
  go_ret
  exact ⟨rfl, hb⟩

set_option maxRecDepth 100000 in
set_option maxHeartbeats 1000000 in
theorem sameFloat_any (a : Nat) (w : World) :
    Calls Try.prog 20 #[.float .f64 a, .float .f64 a] w fun e w' => e = .returned (.bool true) ∧ w' = w := by
  by_cases h : FloatKind.f64.format.order a a = some Ordering.eq
  all_goals (
    go_enter Try.func20, Try.ntmps20
    go_wp2_with fail
    go_ret
    exact ⟨by simp [h], rfl⟩)

set_option maxRecDepth 100000 in
set_option maxHeartbeats 4000000 in
theorem same_any (x : It) (w : World) :
    Calls Try.prog 9 #[valI x, valI x] w fun e w' => e = .returned (.bool true) ∧ Below w.heap.size w w' := by
  obtain ⟨k, b, n, f, r, i, t⟩ := x
  have hs := sameFloat_any
  have hfin : ∀ o1 o2, Below w.heap.size w ((w.alloc o1).alloc o2) := fun o1 o2 => ((Below.refl _ _).alloc (Nat.le_refl _) _).alloc (by simp) _
  go_enter Try.func9, Try.ntmps9
  go_wp2_with (go_at_call 20; refine (hs _ _).mono ?_; rintro e w' ⟨rfl, hq⟩; have hq2 := hq.symm; subst hq2; clear hq)
  go_ret
  exact ⟨rfl, hfin _ _⟩

theorem RowI.take {w : World} {a : Option Addr} {xs : List It} (h : RowI w a xs) (n : Nat) : RowI w a (xs.take n) := by
  rcases h with h | ⟨b, o, e, hlt, hc⟩
  · exact .inl (by simp [h])
  · refine .inr ⟨b, o, e, hlt, fun i hi => ?_⟩
    have hi2 : i < xs.length := by simp at hi; omega
    rw [List.getElem_take]
    exact hc i hi2

end Go.Proofs.Ytelcfmjhbjnkoaa
