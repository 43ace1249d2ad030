/- A log that is not there; two answers that are alike. -/
import Derived.Test.YtkacfpmninmjkaaGreatWk1
namespace Go.Proofs.YtkacfpmninmjkaaGreat
open Go.RowKit

set_option maxRecDepth 100000 in
set_option maxHeartbeats 400000 in
theorem write_nil (v : Value) (w : World) : Calls Tryz.prog 22 #[.pointer none, v] w fun e w' => e = .returned (.int .i64 1) ∧ w' = w := by
  go_enter Tryz.func22, Tryz.ntmps22
  go_wp2_with fail
  go_ret
  exact ⟨rfl, rfl⟩
set_option maxRecDepth 100000 in
set_option maxHeartbeats 400000 in
theorem group_nil (v : Value) (w : World) : Calls Tryz.prog 21 #[.pointer none, v] w fun e w' => e = .returned (.int .i64 1) ∧ w' = w := by
  go_enter Tryz.func21, Tryz.ntmps21
  go_wp2_with fail
  go_ret
  exact ⟨rfl, rfl⟩
set_option maxRecDepth 100000 in
set_option maxHeartbeats 400000 in
theorem lsync_nil (w : World) : Calls Tryz.prog 45 #[.pointer none] w fun e w' => e = .returned (.int .i64 1) ∧ w' = w := by
  go_enter Tryz.func45, Tryz.ntmps45
  go_wp2_with fail
  go_ret
  exact ⟨rfl, rfl⟩
set_option maxRecDepth 100000 in
set_option maxHeartbeats 400000 in
theorem lcut_nil (A : Int) (w : World) : Calls Tryz.prog 30 #[.pointer none, .int .i64 A] w fun e w' => e = .returned (.int .i64 1) ∧ w' = w := by
  go_enter Tryz.func30, Tryz.ntmps30
  go_wp2_with fail
  go_ret
  exact ⟨rfl, rfl⟩
set_option maxRecDepth 100000 in
set_option maxHeartbeats 400000 in
theorem ltrim_nil (A : Int) (w : World) : Calls Tryz.prog 28 #[.pointer none, .int .i64 A] w fun e w' => e = .returned (.int .i64 1) ∧ w' = w := by
  go_enter Tryz.func28, Tryz.ntmps28
  go_wp2_with fail
  go_ret
  exact ⟨rfl, rfl⟩
set_option maxRecDepth 100000 in
set_option maxHeartbeats 400000 in
theorem lbounds_nil (w : World) : Calls Tryz.prog 24 #[.pointer none] w fun e w' => e = .returned (.tuple #[.int .i64 0, .int .i64 0, .int .i64 0]) ∧ w' = w := by
  go_enter Tryz.func24, Tryz.ntmps24
  go_wp2_with fail
  exact bodyPost_ret (v := .tuple #[.int .i64 0, .int .i64 0, .int .i64 0]) (by simp [results, Tryz.results24, go_sem]) rfl ⟨rfl, rfl⟩
set_option maxRecDepth 100000 in
set_option maxHeartbeats 400000 in
theorem lbytes_nil (w : World) : Calls Tryz.prog 53 #[.pointer none] w fun e w' => e = .returned (.tuple #[.int .i64 0, .slice none 0 0]) ∧ w' = w := by
  go_enter Tryz.func53, Tryz.ntmps53
  go_wp2_with fail
  exact bodyPost_ret (v := .tuple #[.int .i64 0, .slice none 0 0]) (by simp [results, Tryz.results53, go_sem]) rfl ⟨rfl, rfl⟩
theorem entries_nil (w : World) : Calls Tryz.prog 23 #[.pointer none] w fun e w' => TelE w [] 0 e w' :=
  entries_core (.pointer none) [] 0 w (by simp) (by simp) (by intro z hz; cases hz) fun U _ => (lbytes_nil U).mono fun e w' ⟨he, hq⟩ => by
    subst hq
    exact ⟨⟨_, he, OwB.nil _ _⟩, Below.refl _ _⟩

/-- What a call answers, as a value. -/
structure AnsW (w : World) (v : Value) (E X Y Z : Int) (ts : List Ent) (ns : List Nat) : Prop where
  ex : ∃ la lc na nc, v = .agg #[.int .i64 E, .int .i64 X, .int .i64 Y, .int .i64 Z, .slice la ts.length lc, .slice na ns.length nc] ∧ Ets w (fun _ => False) la ts ∧ RowZ w na ns

set_option maxRecDepth 100000 in
set_option maxHeartbeats 1600000 in
theorem alikeW_same (v1 v2 : Value) (E X Y Z : Int) (ts1 ts2 : List Ent) (ns : List Nat) (w : World) (h1 : AnsW w v1 E X Y Z ts1 ns) (h2 : AnsW w v2 E X Y Z ts2 ns) (he : ts1.map Ent.en = ts2.map Ent.en) (hl : ts1.length ≤ 140737488355328) (hn : ns.length ≤ 140737488355328) :
    Calls Tryz.prog 14 #[v1, v2] w fun e w' => e = .returned (.bool true) ∧ Below w.heap.size w w' := by
  obtain ⟨la1, lc1, na1, nc1, rfl, e1, z1⟩ := h1.ex
  obtain ⟨la2, lc2, na2, nc2, rfl, e2, z2⟩ := h2.ex
  have hlen : ts2.length = ts1.length := by have := congrArg List.length he; simpa using this.symm
  rw [hlen]
  obtain ⟨W, hW⟩ : ∃ W, W = (w.alloc (.cells #[.int .i64 E, .int .i64 X, .int .i64 Y, .int .i64 Z, .slice la1 ts1.length lc1, .slice na1 ns.length nc1] 46)).alloc (.cells #[.int .i64 E, .int .i64 X, .int .i64 Y, .int .i64 Z, .slice la2 ts1.length lc2, .slice na2 ns.length nc2] 46) := ⟨_, rfl⟩
  have hb : Below w.heap.size w W := by rw [hW]; exact ((Below.refl _ _).alloc (Nat.le_refl _) _).alloc (by simp) _
  have q1 : W.heap[w.heap.size]? = some (.cells #[.int .i64 E, .int .i64 X, .int .i64 Y, .int .i64 Z, .slice la1 ts1.length lc1, .slice na1 ns.length nc1] 46 (0, 0)) := by
    rw [hW]; exact (Below.heap_alloc _ _ _ (by simp)).trans (heap_alloc_new w _)
  have q2 : W.heap[w.heap.size + 1]? = some (.cells #[.int .i64 E, .int .i64 X, .int .i64 Y, .int .i64 Z, .slice la2 ts1.length lc2, .slice na2 ns.length nc2] 46 (0, 0)) := by
    have h := heap_alloc_new (w.alloc (.cells #[.int .i64 E, .int .i64 X, .int .i64 Y, .int .i64 Z, .slice la1 ts1.length lc1, .slice na1 ns.length nc1] 46)) (.cells #[.int .i64 E, .int .i64 X, .int .i64 Y, .int .i64 Z, .slice la2 ts1.length lc2, .slice na2 ns.length nc2] 46)
    rw [World.size_alloc] at h
    rw [hW]; exact h
  have hal := alikeE_same la1 la2 lc1 lc2 ts1 ts2 W (e1.below hb) (e2.below hb) he hl
  rw [hlen] at hal
  have hz2 : w.heap.size + 1 < W.heap.size := (Array.getElem?_eq_some_iff.1 q2).1
  clear h1 h2 he hlen e1 e2
  generalize ts1.length = n1 at *
  generalize hN : ns.length = n2 at *
  replace hN := hide_it hN
  go_enter Tryz.func14, Tryz.ntmps14
  go_wp2_with fail
  rw [← hW]
  clear hW
  refine hal.mono ?_
  rintro e w1 ⟨rfl, hb1⟩
  have p1 := (hb1.block w.heap.size (by omega)).trans q1
  have p2 := (hb1.block (w.heap.size + 1) hz2).trans q2
  have c1 : w1.cell? ⟨w.heap.size, 5, none⟩ = some (.slice na1 n2 nc1) := cell_of_row _ _ _ _ _ _ p1
  have c2 : w1.cell? ⟨w.heap.size + 1, 5, none⟩ = some (.slice na2 n2 nc2) := cell_of_row _ _ _ _ _ _ p2
  have hbw := hb.trans (hb1.mono hb.size)
  have heq := equalZ_same na1 na2 n2 nc1 nc2 ns w1 (z1.below hbw) (z2.below hbw) hN.out (by omega)
  clear hal p1 p2 q1 q2 z1 z2 hN
  go_wp2_with fail
  refine heq.mono ?_
  rintro e w2 ⟨rfl, hb2⟩
  clear heq
  go_wp2_with fail
  go_ret
  exact ⟨rfl, hbw.trans (hb2.mono hbw.size)⟩
end Go.Proofs.YtkacfpmninmjkaaGreat
