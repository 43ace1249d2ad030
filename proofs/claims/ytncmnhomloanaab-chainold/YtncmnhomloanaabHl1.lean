/- The law's comparisons: a link, lists of links. -/
import Derived.Test.YtncmnhomloanaabHi2
namespace Go.Proofs.Ytncmnhomloanaab
open Go.RowKit

set_option maxRecDepth 100000 in
set_option maxHeartbeats 1000000 in
theorem alike_same (x : Lk) (w : World) : Calls Try.prog 38 #[lkV x, lkV x] w fun e w' => e = .returned (.bool true) ∧ Below w.heap.size w w' := by
  have hb2 : Below w.heap.size w ((w.alloc (.cells #[.int .i64 x.n, .string x.v, .bool x.d] 32)).alloc (.cells #[.int .i64 x.n, .string x.v, .bool x.d] 76)) := ((Below.refl _ _).alloc (Nat.le_refl _) _).alloc (by simp) _
  have e1 : (x.n == x.n) = true := by simp
  have e3 : (x.d == x.d) = true := by simp
  unfold lkV
  generalize x.n = n at *
  generalize x.v = v at *
  generalize x.d = d at *
  go_enter Try.func38, Try.ntmps38
  go_wp2
  go_ret
  exact ⟨rfl, hb2⟩

set_option maxRecDepth 100000 in
set_option maxHeartbeats 1000000 in
theorem allAlike_same {w : World} {a b : Option Addr} {ca cb : Nat} {xs : List Lk} (ha : RowL w a xs) (hb : RowL w b xs) (hl : xs.length ≤ 4000000000000) :
    Calls Try.prog 32 #[.slice a xs.length ca, .slice b xs.length cb] w fun e w' => e = .returned (.bool true) ∧ Below w.heap.size w w' := by
  have HA := hide_it ha
  have HB := hide_it hb
  obtain ⟨N, hN⟩ : ∃ N, N = xs.length := ⟨_, rfl⟩
  have HN := hide_it hN
  rw [← hN] at hl ⊢
  clear ha hb hN
  go_enter Try.func32, Try.ntmps32
  go_wp2_with fail
  go_loopw [5] (fun i wr => ∃ k : Nat, k ≤ N ∧ i = .int .i64 (k : Int) ∧ Hid (Below w.heap.size w wr)) (fun i _ => N - (intOf i).toNat)
  case atStart => exact ⟨0, by omega, rfl, hide_it (Below.refl _ _)⟩
  case round =>
    obtain ⟨k, hk, rfl, HW⟩ := hrel
    by_cases hlt : k < N
    · have hki : (k : Int) < (N : Int) := by omega
      have hkx : k < xs.length := by have := HN.out; omega
      have hw1 : IntKind.i64.wrap ((k : Int) + 1) = (k : Int) + 1 := i64_in (by omega) (by omega)
      obtain ⟨b1, o1, rfl, l1, d0, d1, d2⟩ := (HA.out.below HW.out).here hkx
      obtain ⟨b2, o2, rfl, l2, f0, f1, f2⟩ := (HB.out.below HW.out).here hkx
      have hal := alike_same (lk xs k)
      unfold lkV at hal
      generalize lk xs k = x at *
      have hy0 := (Below.refl wr.heap.size wr).drew
      go_wp2_with fail
      refine wp_region_held_drew (S := (fun w' => w'.heap[b1]? = wr.heap[b1]? ∧ w'.heap[b2]? = wr.heap[b2]?)) (by kernel_rfl) ?_ (fun hHeld => ?_)
      · exact ⟨rfl, rfl⟩
      refine take_on (i := 0) (v := ?_) rfl rfl (by kernel_rfl) (by kernel_rfl) (by kernel_rfl) (fun _ _ _ h => h) rfl ?_ hHeld ?_
      rotate_left
      · (intro wq hSq; have s0 := (World.cell?_of_block (w := wr) (a := ⟨b1, o1 + k * 3, none⟩) hSq.1).trans d0; have s1 := (World.cell?_of_block (w := wr) (a := ⟨b1, o1 + k * 3 + 1, none⟩) hSq.1).trans d1; have s2 := (World.cell?_of_block (w := wr) (a := ⟨b1, o1 + k * 3 + 2, none⟩) hSq.1).trans d2; have r0 := (World.cell?_of_block (w := wr) (a := ⟨b2, o2 + k * 3, none⟩) hSq.2).trans f0; have r1 := (World.cell?_of_block (w := wr) (a := ⟨b2, o2 + k * 3 + 1, none⟩) hSq.2).trans f1; have r2 := (World.cell?_of_block (w := wr) (a := ⟨b2, o2 + k * 3 + 2, none⟩) hSq.2).trans f2; go_simp <;> first | with_reducible rfl | rfl)
      simp only [Act.put, List.setIfInBounds_toArray, List.set_cons_zero, List.set_cons_succ]
      refine take_on (i := 1) (v := ?_) rfl rfl (by kernel_rfl) (by kernel_rfl) (by kernel_rfl) (fun _ _ _ h => h) rfl ?_ hHeld ?_
      rotate_left
      · (intro wq hSq; have s0 := (World.cell?_of_block (w := wr) (a := ⟨b1, o1 + k * 3, none⟩) hSq.1).trans d0; have s1 := (World.cell?_of_block (w := wr) (a := ⟨b1, o1 + k * 3 + 1, none⟩) hSq.1).trans d1; have s2 := (World.cell?_of_block (w := wr) (a := ⟨b1, o1 + k * 3 + 2, none⟩) hSq.1).trans d2; have r0 := (World.cell?_of_block (w := wr) (a := ⟨b2, o2 + k * 3, none⟩) hSq.2).trans f0; have r1 := (World.cell?_of_block (w := wr) (a := ⟨b2, o2 + k * 3 + 1, none⟩) hSq.2).trans f1; have r2 := (World.cell?_of_block (w := wr) (a := ⟨b2, o2 + k * 3 + 2, none⟩) hSq.2).trans f2; go_simp <;> first | with_reducible rfl | rfl)
      simp only [Act.put, List.setIfInBounds_toArray, List.set_cons_zero, List.set_cons_succ]
      refine take_on (i := 2) (v := ?_) rfl rfl (by kernel_rfl) (by kernel_rfl) (by kernel_rfl) (fun _ _ _ h => h) rfl ?_ hHeld ?_
      rotate_left
      · (intro wq hSq; have s0 := (World.cell?_of_block (w := wr) (a := ⟨b1, o1 + k * 3, none⟩) hSq.1).trans d0; have s1 := (World.cell?_of_block (w := wr) (a := ⟨b1, o1 + k * 3 + 1, none⟩) hSq.1).trans d1; have s2 := (World.cell?_of_block (w := wr) (a := ⟨b1, o1 + k * 3 + 2, none⟩) hSq.1).trans d2; have r0 := (World.cell?_of_block (w := wr) (a := ⟨b2, o2 + k * 3, none⟩) hSq.2).trans f0; have r1 := (World.cell?_of_block (w := wr) (a := ⟨b2, o2 + k * 3 + 1, none⟩) hSq.2).trans f1; have r2 := (World.cell?_of_block (w := wr) (a := ⟨b2, o2 + k * 3 + 2, none⟩) hSq.2).trans f2; go_simp <;> first | with_reducible rfl | rfl)
      simp only [Act.put, List.setIfInBounds_toArray, List.set_cons_zero, List.set_cons_succ]
      refine take_on (i := 3) (v := ?_) rfl rfl (by kernel_rfl) (by kernel_rfl) (by kernel_rfl) (fun _ _ _ h => h) rfl ?_ hHeld ?_
      rotate_left
      · (intro wq hSq; have s0 := (World.cell?_of_block (w := wr) (a := ⟨b1, o1 + k * 3, none⟩) hSq.1).trans d0; have s1 := (World.cell?_of_block (w := wr) (a := ⟨b1, o1 + k * 3 + 1, none⟩) hSq.1).trans d1; have s2 := (World.cell?_of_block (w := wr) (a := ⟨b1, o1 + k * 3 + 2, none⟩) hSq.1).trans d2; have r0 := (World.cell?_of_block (w := wr) (a := ⟨b2, o2 + k * 3, none⟩) hSq.2).trans f0; have r1 := (World.cell?_of_block (w := wr) (a := ⟨b2, o2 + k * 3 + 1, none⟩) hSq.2).trans f1; have r2 := (World.cell?_of_block (w := wr) (a := ⟨b2, o2 + k * 3 + 2, none⟩) hSq.2).trans f2; go_simp <;> first | with_reducible rfl | rfl)
      simp only [Act.put, List.setIfInBounds_toArray, List.set_cons_zero, List.set_cons_succ]
      refine take_on (i := 4) (v := ?_) rfl rfl (by kernel_rfl) (by kernel_rfl) (by kernel_rfl) (fun _ _ _ h => h) rfl ?_ hHeld ?_
      rotate_left
      · (intro wq hSq; have s0 := (World.cell?_of_block (w := wr) (a := ⟨b1, o1 + k * 3, none⟩) hSq.1).trans d0; have s1 := (World.cell?_of_block (w := wr) (a := ⟨b1, o1 + k * 3 + 1, none⟩) hSq.1).trans d1; have s2 := (World.cell?_of_block (w := wr) (a := ⟨b1, o1 + k * 3 + 2, none⟩) hSq.1).trans d2; have r0 := (World.cell?_of_block (w := wr) (a := ⟨b2, o2 + k * 3, none⟩) hSq.2).trans f0; have r1 := (World.cell?_of_block (w := wr) (a := ⟨b2, o2 + k * 3 + 1, none⟩) hSq.2).trans f1; have r2 := (World.cell?_of_block (w := wr) (a := ⟨b2, o2 + k * 3 + 2, none⟩) hSq.2).trans f2; go_simp <;> first | with_reducible rfl | rfl)
      simp only [Act.put, List.setIfInBounds_toArray, List.set_cons_zero, List.set_cons_succ]
      refine take_on (i := 5) (v := ?_) rfl rfl (by kernel_rfl) (by kernel_rfl) (by kernel_rfl) (fun _ _ _ h => h) rfl ?_ hHeld ?_
      rotate_left
      · (intro wq hSq; have s0 := (World.cell?_of_block (w := wr) (a := ⟨b1, o1 + k * 3, none⟩) hSq.1).trans d0; have s1 := (World.cell?_of_block (w := wr) (a := ⟨b1, o1 + k * 3 + 1, none⟩) hSq.1).trans d1; have s2 := (World.cell?_of_block (w := wr) (a := ⟨b1, o1 + k * 3 + 2, none⟩) hSq.1).trans d2; have r0 := (World.cell?_of_block (w := wr) (a := ⟨b2, o2 + k * 3, none⟩) hSq.2).trans f0; have r1 := (World.cell?_of_block (w := wr) (a := ⟨b2, o2 + k * 3 + 1, none⟩) hSq.2).trans f1; have r2 := (World.cell?_of_block (w := wr) (a := ⟨b2, o2 + k * 3 + 2, none⟩) hSq.2).trans f2; go_simp <;> first | with_reducible rfl | rfl)
      simp only [Act.put, List.setIfInBounds_toArray, List.set_cons_zero, List.set_cons_succ]
      refine take_on (i := 6) (v := ?_) rfl rfl (by kernel_rfl) (by kernel_rfl) (by kernel_rfl) (fun _ _ _ h => h) rfl ?_ hHeld ?_
      rotate_left
      · (intro wq hSq; have s0 := (World.cell?_of_block (w := wr) (a := ⟨b1, o1 + k * 3, none⟩) hSq.1).trans d0; have s1 := (World.cell?_of_block (w := wr) (a := ⟨b1, o1 + k * 3 + 1, none⟩) hSq.1).trans d1; have s2 := (World.cell?_of_block (w := wr) (a := ⟨b1, o1 + k * 3 + 2, none⟩) hSq.1).trans d2; have r0 := (World.cell?_of_block (w := wr) (a := ⟨b2, o2 + k * 3, none⟩) hSq.2).trans f0; have r1 := (World.cell?_of_block (w := wr) (a := ⟨b2, o2 + k * 3 + 1, none⟩) hSq.2).trans f1; have r2 := (World.cell?_of_block (w := wr) (a := ⟨b2, o2 + k * 3 + 2, none⟩) hSq.2).trans f2; go_simp <;> first | with_reducible rfl | rfl)
      simp only [Act.put, List.setIfInBounds_toArray, List.set_cons_zero, List.set_cons_succ]
      refine take_on (i := 7) (v := ?_) rfl rfl (by kernel_rfl) (by kernel_rfl) (by kernel_rfl) (fun _ _ _ h => h) rfl ?_ hHeld ?_
      rotate_left
      · (intro wq hSq; have s0 := (World.cell?_of_block (w := wr) (a := ⟨b1, o1 + k * 3, none⟩) hSq.1).trans d0; have s1 := (World.cell?_of_block (w := wr) (a := ⟨b1, o1 + k * 3 + 1, none⟩) hSq.1).trans d1; have s2 := (World.cell?_of_block (w := wr) (a := ⟨b1, o1 + k * 3 + 2, none⟩) hSq.1).trans d2; have r0 := (World.cell?_of_block (w := wr) (a := ⟨b2, o2 + k * 3, none⟩) hSq.2).trans f0; have r1 := (World.cell?_of_block (w := wr) (a := ⟨b2, o2 + k * 3 + 1, none⟩) hSq.2).trans f1; have r2 := (World.cell?_of_block (w := wr) (a := ⟨b2, o2 + k * 3 + 2, none⟩) hSq.2).trans f2; go_simp <;> first | with_reducible rfl | rfl)
      simp only [Act.put, List.setIfInBounds_toArray, List.set_cons_zero, List.set_cons_succ]
      refine take_one (i := 8) rfl (by kernel_rfl) (fun K hK => ?_)
      go_simp
      (refine (hal _).mono ?_; rintro e z1 ⟨rfl, hz1⟩; have hy1 := hy0.trans (hz1.mono (by have := hy0.size; omega)))
      try go_wp2_with fail
      refine hK.out _ _ ?_ (fun hHeld => ?_)
      · exact ⟨hy1.block _ l1, hy1.block _ l2⟩
      clear hK K
      try simp only [Act.put, List.setIfInBounds_toArray, List.set_cons_zero, List.set_cons_succ]
      refine take_on (i := 9) (v := ?_) rfl rfl (by kernel_rfl) (by kernel_rfl) (by kernel_rfl) (fun _ _ _ h => h) rfl ?_ hHeld ?_
      rotate_left
      · (intro wq hSq; have s0 := (World.cell?_of_block (w := wr) (a := ⟨b1, o1 + k * 3, none⟩) hSq.1).trans d0; have s1 := (World.cell?_of_block (w := wr) (a := ⟨b1, o1 + k * 3 + 1, none⟩) hSq.1).trans d1; have s2 := (World.cell?_of_block (w := wr) (a := ⟨b1, o1 + k * 3 + 2, none⟩) hSq.1).trans d2; have r0 := (World.cell?_of_block (w := wr) (a := ⟨b2, o2 + k * 3, none⟩) hSq.2).trans f0; have r1 := (World.cell?_of_block (w := wr) (a := ⟨b2, o2 + k * 3 + 1, none⟩) hSq.2).trans f1; have r2 := (World.cell?_of_block (w := wr) (a := ⟨b2, o2 + k * 3 + 2, none⟩) hSq.2).trans f2; go_simp <;> first | with_reducible rfl | rfl)
      simp only [Act.put, List.setIfInBounds_toArray, List.set_cons_zero, List.set_cons_succ]
      refine wpAnyH_done (by kernel_rfl) ?_ _
      have HY := hide_it (HW.out.trans (hy1.mono HW.out.size))
      clear hy0 hy1 hz1 hal d0 d1 d2 f0 f1 f2
      go_wp2
      go_roundw
      case rel => exact ⟨k + 1, by omega, by go_num, HY⟩
      case measure => simp [intOf]; omega
    · go_wp2
      go_ret
      exact ⟨rfl, HW.out⟩

set_option maxRecDepth 100000 in
set_option maxHeartbeats 1000000 in
theorem pat_none (q : Nat) (w : World) : Calls Try.prog 29 #[.pointer (some ⟨q, 0, none⟩), lkV zeroLk, .bool false, .int .i64 (-1)] w fun e w' => e = .returned (.bool true) ∧ Below w.heap.size w w' := by
  obtain ⟨W, hW⟩ : ∃ W, W = w.alloc (.cells #[.int .i64 0, .string ⟨#[]⟩, .bool false] 32) := ⟨_, rfl⟩
  have hb : Below w.heap.size w W := by rw [hW]; exact (Below.refl _ _).alloc (Nat.le_refl _) _
  have hal := alike_same zeroLk W
  unfold lkV zeroLk at *
  go_enter Try.func29, Try.ntmps29
  go_wp2_with fail
  rw [← hW]
  clear hW
  refine hal.mono ?_
  rintro e w1 ⟨rfl, hb1⟩
  have HB := hide_it (hb.trans (hb1.mono hb.size))
  clear hal hb hb1
  go_wp2
  go_ret
  exact ⟨rfl, HB.out⟩

set_option maxRecDepth 100000 in
set_option maxHeartbeats 1000000 in
theorem pat_some (q : Nat) (w : World) {a : Option Addr} {cap : Nat} {xs : List Lk} (hr : RowL w a xs) {i : Nat} (hi : i < xs.length) (hq : w.cell? ⟨q, 1, none⟩ = some (.slice a xs.length cap)) :
    Calls Try.prog 29 #[.pointer (some ⟨q, 0, none⟩), lkV (lk xs i), .bool true, .int .i64 (i : Int)] w fun e w' => e = .returned (.bool true) ∧ Below w.heap.size w w' := by
  obtain ⟨b2, o2, rfl, l2, f0, f1, f2⟩ := hr.here hi
  have hii : (i : Int) < (xs.length : Int) := by omega
  have hin : ¬ (i : Int) < 0 := by omega
  have hql : q < w.heap.size := World.block_lt_of_cell? _ _ hq
  have hal := alike_same (lk xs i)
  obtain ⟨N, hN⟩ : ∃ N, N = xs.length := ⟨_, rfl⟩
  rw [← hN] at hq hii
  unfold lkV at *
  generalize lk xs i = x at *
  clear hr hi hN
  obtain ⟨W, hW⟩ : ∃ W, W = w.alloc (.cells #[.int .i64 x.n, .string x.v, .bool x.d] 32) := ⟨_, rfl⟩
  have hb : Below w.heap.size w W := by rw [hW]; exact (Below.refl _ _).alloc (Nat.le_refl _) _
  have hz : w.heap.size < W.heap.size := by rw [hW]; simp
  have k0 : W.heap[w.heap.size]? = some (.cells #[.int .i64 x.n, .string x.v, .bool x.d] 32 (0, 0)) := by rw [hW]; exact heap_alloc_new w _
  have g0 := (hb.cell (p := ⟨b2, o2 + i * 3, none⟩) l2).trans f0
  have g1 := (hb.cell (p := ⟨b2, o2 + i * 3 + 1, none⟩) l2).trans f1
  have g2 := (hb.cell (p := ⟨b2, o2 + i * 3 + 2, none⟩) l2).trans f2
  have gq := (hb.cell (p := ⟨q, 1, none⟩) hql).trans hq
  have l2' : b2 < W.heap.size := by omega
  have lq' : q < W.heap.size := by omega
  have hy0 := (Below.refl W.heap.size W).drew
  clear f0 f1 f2 hq
  go_enter Try.func29, Try.ntmps29
  go_wp2_with fail
  rw [← hW]
  clear hW
  refine wp_region_held_drew (S := (fun w' => w'.heap[b2]? = W.heap[b2]? ∧ w'.heap[q]? = W.heap[q]? ∧ w'.heap[w.heap.size]? = W.heap[w.heap.size]?)) (by kernel_rfl) ?_ (fun hHeld => ?_)
  · exact ⟨rfl, rfl, rfl⟩
  refine take_on (i := 0) (v := ?_) rfl rfl (by kernel_rfl) (by kernel_rfl) (by kernel_rfl) (fun _ _ _ h => h) rfl ?_ hHeld ?_
  rotate_left
  · (intro wq hSq; have xk := hSq.2.2.trans k0; have s0 := cell_of_row _ _ 0 _ _ _ xk; have s1 := cell_of_row _ _ 1 _ _ _ xk; have s2 := cell_of_row _ _ 2 _ _ _ xk; have s3 := (World.cell?_of_block (w := W) (a := ⟨q, 1, none⟩) hSq.2.1).trans gq; have r0 := (World.cell?_of_block (w := W) (a := ⟨b2, o2 + i * 3, none⟩) hSq.1).trans g0; have r1 := (World.cell?_of_block (w := W) (a := ⟨b2, o2 + i * 3 + 1, none⟩) hSq.1).trans g1; have r2 := (World.cell?_of_block (w := W) (a := ⟨b2, o2 + i * 3 + 2, none⟩) hSq.1).trans g2; go_simp <;> first | with_reducible rfl | rfl)
  simp only [Act.put, List.setIfInBounds_toArray, List.set_cons_zero, List.set_cons_succ]
  refine take_on (i := 1) (v := ?_) rfl rfl (by kernel_rfl) (by kernel_rfl) (by kernel_rfl) (fun _ _ _ h => h) rfl ?_ hHeld ?_
  rotate_left
  · (intro wq hSq; have xk := hSq.2.2.trans k0; have s0 := cell_of_row _ _ 0 _ _ _ xk; have s1 := cell_of_row _ _ 1 _ _ _ xk; have s2 := cell_of_row _ _ 2 _ _ _ xk; have s3 := (World.cell?_of_block (w := W) (a := ⟨q, 1, none⟩) hSq.2.1).trans gq; have r0 := (World.cell?_of_block (w := W) (a := ⟨b2, o2 + i * 3, none⟩) hSq.1).trans g0; have r1 := (World.cell?_of_block (w := W) (a := ⟨b2, o2 + i * 3 + 1, none⟩) hSq.1).trans g1; have r2 := (World.cell?_of_block (w := W) (a := ⟨b2, o2 + i * 3 + 2, none⟩) hSq.1).trans g2; go_simp <;> first | with_reducible rfl | rfl)
  simp only [Act.put, List.setIfInBounds_toArray, List.set_cons_zero, List.set_cons_succ]
  refine take_on (i := 2) (v := ?_) rfl rfl (by kernel_rfl) (by kernel_rfl) (by kernel_rfl) (fun _ _ _ h => h) rfl ?_ hHeld ?_
  rotate_left
  · (intro wq hSq; have xk := hSq.2.2.trans k0; have s0 := cell_of_row _ _ 0 _ _ _ xk; have s1 := cell_of_row _ _ 1 _ _ _ xk; have s2 := cell_of_row _ _ 2 _ _ _ xk; have s3 := (World.cell?_of_block (w := W) (a := ⟨q, 1, none⟩) hSq.2.1).trans gq; have r0 := (World.cell?_of_block (w := W) (a := ⟨b2, o2 + i * 3, none⟩) hSq.1).trans g0; have r1 := (World.cell?_of_block (w := W) (a := ⟨b2, o2 + i * 3 + 1, none⟩) hSq.1).trans g1; have r2 := (World.cell?_of_block (w := W) (a := ⟨b2, o2 + i * 3 + 2, none⟩) hSq.1).trans g2; go_simp <;> first | with_reducible rfl | rfl)
  simp only [Act.put, List.setIfInBounds_toArray, List.set_cons_zero, List.set_cons_succ]
  refine take_on (i := 3) (v := ?_) rfl rfl (by kernel_rfl) (by kernel_rfl) (by kernel_rfl) (fun _ _ _ h => h) rfl ?_ hHeld ?_
  rotate_left
  · (intro wq hSq; have xk := hSq.2.2.trans k0; have s0 := cell_of_row _ _ 0 _ _ _ xk; have s1 := cell_of_row _ _ 1 _ _ _ xk; have s2 := cell_of_row _ _ 2 _ _ _ xk; have s3 := (World.cell?_of_block (w := W) (a := ⟨q, 1, none⟩) hSq.2.1).trans gq; have r0 := (World.cell?_of_block (w := W) (a := ⟨b2, o2 + i * 3, none⟩) hSq.1).trans g0; have r1 := (World.cell?_of_block (w := W) (a := ⟨b2, o2 + i * 3 + 1, none⟩) hSq.1).trans g1; have r2 := (World.cell?_of_block (w := W) (a := ⟨b2, o2 + i * 3 + 2, none⟩) hSq.1).trans g2; go_simp <;> first | with_reducible rfl | rfl)
  simp only [Act.put, List.setIfInBounds_toArray, List.set_cons_zero, List.set_cons_succ]
  refine take_on (i := 4) (v := ?_) rfl rfl (by kernel_rfl) (by kernel_rfl) (by kernel_rfl) (fun _ _ _ h => h) rfl ?_ hHeld ?_
  rotate_left
  · (intro wq hSq; have xk := hSq.2.2.trans k0; have s0 := cell_of_row _ _ 0 _ _ _ xk; have s1 := cell_of_row _ _ 1 _ _ _ xk; have s2 := cell_of_row _ _ 2 _ _ _ xk; have s3 := (World.cell?_of_block (w := W) (a := ⟨q, 1, none⟩) hSq.2.1).trans gq; have r0 := (World.cell?_of_block (w := W) (a := ⟨b2, o2 + i * 3, none⟩) hSq.1).trans g0; have r1 := (World.cell?_of_block (w := W) (a := ⟨b2, o2 + i * 3 + 1, none⟩) hSq.1).trans g1; have r2 := (World.cell?_of_block (w := W) (a := ⟨b2, o2 + i * 3 + 2, none⟩) hSq.1).trans g2; go_simp <;> first | with_reducible rfl | rfl)
  simp only [Act.put, List.setIfInBounds_toArray, List.set_cons_zero, List.set_cons_succ]
  refine take_on (i := 5) (v := ?_) rfl rfl (by kernel_rfl) (by kernel_rfl) (by kernel_rfl) (fun _ _ _ h => h) rfl ?_ hHeld ?_
  rotate_left
  · (intro wq hSq; have xk := hSq.2.2.trans k0; have s0 := cell_of_row _ _ 0 _ _ _ xk; have s1 := cell_of_row _ _ 1 _ _ _ xk; have s2 := cell_of_row _ _ 2 _ _ _ xk; have s3 := (World.cell?_of_block (w := W) (a := ⟨q, 1, none⟩) hSq.2.1).trans gq; have r0 := (World.cell?_of_block (w := W) (a := ⟨b2, o2 + i * 3, none⟩) hSq.1).trans g0; have r1 := (World.cell?_of_block (w := W) (a := ⟨b2, o2 + i * 3 + 1, none⟩) hSq.1).trans g1; have r2 := (World.cell?_of_block (w := W) (a := ⟨b2, o2 + i * 3 + 2, none⟩) hSq.1).trans g2; go_simp <;> first | with_reducible rfl | rfl)
  simp only [Act.put, List.setIfInBounds_toArray, List.set_cons_zero, List.set_cons_succ]
  refine take_on (i := 6) (v := ?_) rfl rfl (by kernel_rfl) (by kernel_rfl) (by kernel_rfl) (fun _ _ _ h => h) rfl ?_ hHeld ?_
  rotate_left
  · (intro wq hSq; have xk := hSq.2.2.trans k0; have s0 := cell_of_row _ _ 0 _ _ _ xk; have s1 := cell_of_row _ _ 1 _ _ _ xk; have s2 := cell_of_row _ _ 2 _ _ _ xk; have s3 := (World.cell?_of_block (w := W) (a := ⟨q, 1, none⟩) hSq.2.1).trans gq; have r0 := (World.cell?_of_block (w := W) (a := ⟨b2, o2 + i * 3, none⟩) hSq.1).trans g0; have r1 := (World.cell?_of_block (w := W) (a := ⟨b2, o2 + i * 3 + 1, none⟩) hSq.1).trans g1; have r2 := (World.cell?_of_block (w := W) (a := ⟨b2, o2 + i * 3 + 2, none⟩) hSq.1).trans g2; go_simp <;> first | with_reducible rfl | rfl)
  simp only [Act.put, List.setIfInBounds_toArray, List.set_cons_zero, List.set_cons_succ]
  refine take_on (i := 7) (v := ?_) rfl rfl (by kernel_rfl) (by kernel_rfl) (by kernel_rfl) (fun _ _ _ h => h) rfl ?_ hHeld ?_
  rotate_left
  · (intro wq hSq; have xk := hSq.2.2.trans k0; have s0 := cell_of_row _ _ 0 _ _ _ xk; have s1 := cell_of_row _ _ 1 _ _ _ xk; have s2 := cell_of_row _ _ 2 _ _ _ xk; have s3 := (World.cell?_of_block (w := W) (a := ⟨q, 1, none⟩) hSq.2.1).trans gq; have r0 := (World.cell?_of_block (w := W) (a := ⟨b2, o2 + i * 3, none⟩) hSq.1).trans g0; have r1 := (World.cell?_of_block (w := W) (a := ⟨b2, o2 + i * 3 + 1, none⟩) hSq.1).trans g1; have r2 := (World.cell?_of_block (w := W) (a := ⟨b2, o2 + i * 3 + 2, none⟩) hSq.1).trans g2; go_simp <;> first | with_reducible rfl | rfl)
  simp only [Act.put, List.setIfInBounds_toArray, List.set_cons_zero, List.set_cons_succ]
  refine take_on (i := 8) (v := ?_) rfl rfl (by kernel_rfl) (by kernel_rfl) (by kernel_rfl) (fun _ _ _ h => h) rfl ?_ hHeld ?_
  rotate_left
  · (intro wq hSq; have xk := hSq.2.2.trans k0; have s0 := cell_of_row _ _ 0 _ _ _ xk; have s1 := cell_of_row _ _ 1 _ _ _ xk; have s2 := cell_of_row _ _ 2 _ _ _ xk; have s3 := (World.cell?_of_block (w := W) (a := ⟨q, 1, none⟩) hSq.2.1).trans gq; have r0 := (World.cell?_of_block (w := W) (a := ⟨b2, o2 + i * 3, none⟩) hSq.1).trans g0; have r1 := (World.cell?_of_block (w := W) (a := ⟨b2, o2 + i * 3 + 1, none⟩) hSq.1).trans g1; have r2 := (World.cell?_of_block (w := W) (a := ⟨b2, o2 + i * 3 + 2, none⟩) hSq.1).trans g2; go_simp <;> first | with_reducible rfl | rfl)
  simp only [Act.put, List.setIfInBounds_toArray, List.set_cons_zero, List.set_cons_succ]
  refine take_on (i := 9) (v := ?_) rfl rfl (by kernel_rfl) (by kernel_rfl) (by kernel_rfl) (fun _ _ _ h => h) rfl ?_ hHeld ?_
  rotate_left
  · (intro wq hSq; have xk := hSq.2.2.trans k0; have s0 := cell_of_row _ _ 0 _ _ _ xk; have s1 := cell_of_row _ _ 1 _ _ _ xk; have s2 := cell_of_row _ _ 2 _ _ _ xk; have s3 := (World.cell?_of_block (w := W) (a := ⟨q, 1, none⟩) hSq.2.1).trans gq; have r0 := (World.cell?_of_block (w := W) (a := ⟨b2, o2 + i * 3, none⟩) hSq.1).trans g0; have r1 := (World.cell?_of_block (w := W) (a := ⟨b2, o2 + i * 3 + 1, none⟩) hSq.1).trans g1; have r2 := (World.cell?_of_block (w := W) (a := ⟨b2, o2 + i * 3 + 2, none⟩) hSq.1).trans g2; go_simp <;> first | with_reducible rfl | rfl)
  simp only [Act.put, List.setIfInBounds_toArray, List.set_cons_zero, List.set_cons_succ]
  refine take_one (i := 10) rfl (by kernel_rfl) (fun K hK => ?_)
  go_simp
  (refine (hal _).mono ?_; rintro e z1 ⟨rfl, hz1⟩; have hy1 := hy0.trans (hz1.mono (by have := hy0.size; omega)))
  try go_wp2_with fail
  refine hK.out _ _ ?_ (fun hHeld => ?_)
  · exact ⟨hy1.block _ l2', hy1.block _ lq', hy1.block _ hz⟩
  clear hK K
  try simp only [Act.put, List.setIfInBounds_toArray, List.set_cons_zero, List.set_cons_succ]
  refine take_on (i := 11) (v := ?_) rfl rfl (by kernel_rfl) (by kernel_rfl) (by kernel_rfl) (fun _ _ _ h => h) rfl ?_ hHeld ?_
  rotate_left
  · (intro wq hSq; have xk := hSq.2.2.trans k0; have s0 := cell_of_row _ _ 0 _ _ _ xk; have s1 := cell_of_row _ _ 1 _ _ _ xk; have s2 := cell_of_row _ _ 2 _ _ _ xk; have s3 := (World.cell?_of_block (w := W) (a := ⟨q, 1, none⟩) hSq.2.1).trans gq; have r0 := (World.cell?_of_block (w := W) (a := ⟨b2, o2 + i * 3, none⟩) hSq.1).trans g0; have r1 := (World.cell?_of_block (w := W) (a := ⟨b2, o2 + i * 3 + 1, none⟩) hSq.1).trans g1; have r2 := (World.cell?_of_block (w := W) (a := ⟨b2, o2 + i * 3 + 2, none⟩) hSq.1).trans g2; go_simp <;> first | with_reducible rfl | rfl)
  simp only [Act.put, List.setIfInBounds_toArray, List.set_cons_zero, List.set_cons_succ]
  refine take_on (i := 12) (v := ?_) rfl rfl (by kernel_rfl) (by kernel_rfl) (by kernel_rfl) (fun _ _ _ h => h) rfl ?_ hHeld ?_
  rotate_left
  · (intro wq hSq; have xk := hSq.2.2.trans k0; have s0 := cell_of_row _ _ 0 _ _ _ xk; have s1 := cell_of_row _ _ 1 _ _ _ xk; have s2 := cell_of_row _ _ 2 _ _ _ xk; have s3 := (World.cell?_of_block (w := W) (a := ⟨q, 1, none⟩) hSq.2.1).trans gq; have r0 := (World.cell?_of_block (w := W) (a := ⟨b2, o2 + i * 3, none⟩) hSq.1).trans g0; have r1 := (World.cell?_of_block (w := W) (a := ⟨b2, o2 + i * 3 + 1, none⟩) hSq.1).trans g1; have r2 := (World.cell?_of_block (w := W) (a := ⟨b2, o2 + i * 3 + 2, none⟩) hSq.1).trans g2; go_simp <;> first | with_reducible rfl | rfl)
  simp only [Act.put, List.setIfInBounds_toArray, List.set_cons_zero, List.set_cons_succ]
  refine wpAnyH_done (by kernel_rfl) ?_ _
  have HY := hide_it (hb.trans (hy1.mono hb.size))
  clear hy0 hy1 hz1 hal
  go_wp2
  go_ret
  exact ⟨rfl, HY.out⟩

end Go.Proofs.Ytncmnhomloanaab
