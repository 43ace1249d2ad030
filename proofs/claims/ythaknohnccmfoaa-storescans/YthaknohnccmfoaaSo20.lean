/- A scan of what has no map. -/
import Derived.Test.YthaknohnccmfoaaSo19
import Derived.Shelf.SlSortCmp.NoneTotal
import Derived.Laws.IdiomRangeMap
namespace Go.Proofs.Ythaknohnccmfoaa
open Go.RowKit Go.Maps Go.Shelf

attribute [local go_sem] Oper.semAt_some

theorem sort_none (cap : Nat) (fv : Value) (w : World) : Calls Try.prog 78 #[.slice none 0 cap, fv] w fun e w' => e = .returned (.tuple #[]) ∧ w' = w :=
  AnyF.slices_SortFunc_none laysPairs none cap fv w

set_option maxRecDepth 100000 in
set_option maxHeartbeats 1000000 in
theorem found_nil (p : Option Addr) (fr to : ByteArray) (n : Int) (w : World) (ha0 : Calls Try.prog 41 #[.pointer p] w fun e w' => e = .returned (.map none) ∧ w' = w) :
    Calls Try.prog 54 #[.pointer p, .string fr, .string to, .int .i64 n] w fun e w' => e = .returned (.slice none 0 0) ∧ Below w.heap.size w w' := by
  have hb : Below w.heap.size w (w.alloc (.mapIter none 0 #[] 0)) := (Below.refl _ _).alloc (Nat.le_refl _) _
  have hrg := run_range_nilMap (P := Try.prog) w 73 9 88 Try.underlying73
  have hnx : ∀ ty, (Instr.next (.pointer (some ⟨w.heap.size, 0, none⟩)) false ty).run Try.prog (w.alloc (.mapIter none 0 #[] 0)) = _ := fun ty => run_next_nilMap w ty 0 0 #[]
  have hso := fun fv => sort_none 0 fv (w.alloc (.mapIter none 0 #[] 0))
  have HB := hide_it hb
  clear hb
  go_enter Try.func54, Try.ntmps54
  go_wp2_with fail
  refine ha0.mono ?_
  rintro e w1 ⟨rfl, hw1⟩
  obtain rfl := hw1.symm
  clear ha0 hw1
  go_wp2_with fail
  refine wp_loop_rounds 1 ?_
  rw [rounds_succ]
  go_wp2_with fail
  refine (hso _).mono ?_
  rintro e w2 ⟨rfl, hw2⟩
  obtain rfl := hw2.symm
  clear hso hw2
  go_wp2
  go_ret
  exact ⟨rfl, HB.out⟩

/-- The four boxes of what Scan answers. -/
structure Sc4 (W : World) (B : Nat) (p : Option Addr) (fr to : ByteArray) (n : Int) : Prop where
  b0 : Boxed W B 25 (.pointer p)
  b1 : Boxed W (B + 1) 9 (.string fr)
  b2 : Boxed W (B + 2) 9 (.string to)
  b3 : Boxed W (B + 3) 3 (.int .i64 n)
theorem Sc4.below {W W' : World} {B : Nat} {p : Option Addr} {fr to : ByteArray} {n : Int} (h : Sc4 W B p fr to n) (hb : Below W.heap.size W W') : Sc4 W' B p fr to n :=
  ⟨(hb.block _ h.b0.lt).trans h.b0, (hb.block _ h.b1.lt).trans h.b1, (hb.block _ h.b2.lt).trans h.b2, (hb.block _ h.b3.lt).trans h.b3⟩

set_option maxRecDepth 100000 in
set_option maxHeartbeats 1000000 in
theorem scan_any (p : Option Addr) (fr to : ByteArray) (n : Int) (w : World) :
    Calls Try.prog 30 #[.pointer p, .string fr, .string to, .int .i64 n] w fun e w' => e = .returned (.func (.func 53) #[] #[.pointer (some ⟨w.heap.size, 0, none⟩), .pointer (some ⟨w.heap.size + 1, 0, none⟩), .pointer (some ⟨w.heap.size + 2, 0, none⟩), .pointer (some ⟨w.heap.size + 3, 0, none⟩)]) ∧ Sc4 w' w.heap.size p fr to n ∧ Below w.heap.size w w' := by
  have hmf : ∀ (fn : Fn) (first cap : Array Value) (w : World), (Instr.makeFunc fn first cap).run Try.prog w = .ok (.func fn first cap) w := fun _ _ _ _ => rfl
  obtain ⟨W, hW⟩ : ∃ W, W = (((w.alloc (.cells #[.pointer p] 25)).alloc (.cells #[.string fr] 9)).alloc (.cells #[.string to] 9)).alloc (.cells #[.int .i64 n] 3) := ⟨_, rfl⟩
  have hb : Below w.heap.size w W := by rw [hW]; exact ((((Below.refl _ _).alloc (Nat.le_refl _) _).alloc (by simp) _).alloc (by simp; omega) _).alloc (by simp; omega) _
  have hs : Sc4 W w.heap.size p fr to n := by
    rw [hW]
    refine ⟨(((Boxed.new w _ _).alloc _).alloc _).alloc _, ?_, ?_, ?_⟩
    · have := Boxed.new (w.alloc (.cells #[.pointer p] 25)) 9 (.string fr)
      rw [show (w.alloc (.cells #[.pointer p] 25)).heap.size = w.heap.size + 1 by simp] at this
      exact (this.alloc _).alloc _
    · have := Boxed.new ((w.alloc (.cells #[.pointer p] 25)).alloc (.cells #[.string fr] 9)) 9 (.string to)
      rw [show ((w.alloc (.cells #[.pointer p] 25)).alloc (.cells #[.string fr] 9)).heap.size = w.heap.size + 2 by simp] at this
      exact this.alloc _
    · have := Boxed.new (((w.alloc (.cells #[.pointer p] 25)).alloc (.cells #[.string fr] 9)).alloc (.cells #[.string to] 9)) 3 (.int .i64 n)
      rw [show (((w.alloc (.cells #[.pointer p] 25)).alloc (.cells #[.string fr] 9)).alloc (.cells #[.string to] 9)).heap.size = w.heap.size + 3 by simp] at this
      exact this
  have HB := hide_it hb
  have HS := hide_it hs
  clear hb hs
  go_enter Try.func30, Try.ntmps30
  go_wp2
  rw [← hW]
  go_ret
  exact ⟨rfl, HS.out, HB.out⟩

end Go.Proofs.Ythaknohnccmfoaa
