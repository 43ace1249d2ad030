/- The law on a store that is not there, walked. -/
import Derived.Test.YtcdlalmahjjbgaaSo22
namespace Go.Proofs.Ytcdlalmahjjbgaa.storeNone
open Go.RowKit

/-- The boxes of a round. -/
def boxE (E : Int) : Obj := .cells #[.int .i64 E, .int .i64 0, .int .i64 0, .bool false, .slice none 0 0, .slice none 0 0, .slice none 0 0] 35

set_option maxRecDepth 100000 in
set_option maxHeartbeats 4000000 in
theorem walk (a : Option Addr) (n c : Nat) (A : Nat → Stv) (w : World) (ha : CameStv w a n A) :
    Calls Try.prog 6 #[.slice a n c] w fun e w' => e = .returned (.bool true) ∧ Below w.heap.size w w' := by
  have hn := ha.size
  have hrow := ha.row
  have heach := hide_it ha.each
  have hfx := fixed_any w
  clear ha
  go_enter Try.func6, Try.ntmps6
  go_wp2_with fail
  refine hfx.mono ?_
  rintro e w1 ⟨rfl, hb1⟩
  have HB1 := hide_it hb1
  clear hfx hb1
  go_wp2_with fail
  go_loopw [11, 5, 6] (fun i _ _ wr => ∃ k : Nat, k ≤ n ∧ i = .int .i64 (k : Int) ∧ Hid (Below w.heap.size w wr)) (fun i _ _ _ => n - (intOf i).toNat)
  case atStart => exact ⟨0, by omega, rfl, HB1⟩
  case round =>
    clear HB1
    obtain ⟨k, hk, rfl, HW⟩ := hrel
    by_cases hlt : k < n
    · have hki : (k : Int) < (n : Int) := by omega
      have hw1 : IntKind.i64.wrap ((k : Int) + 1) = (k : Int) + 1 := i64_in (by omega) (by omega)
      obtain ⟨b2, o2, rfl, l2, c0, c1, c2, c3, c4, c5⟩ := hrow.here hlt
      have d0 := (HW.out.cell (p := ⟨b2, o2 + k * 6, none⟩) l2).trans c0
      have d1 := (HW.out.cell (p := ⟨b2, o2 + k * 6 + 1, none⟩) l2).trans c1
      have d2 := (HW.out.cell (p := ⟨b2, o2 + k * 6 + 2, none⟩) l2).trans c2
      have d3 := (HW.out.cell (p := ⟨b2, o2 + k * 6 + 3, none⟩) l2).trans c3
      have d4 := (HW.out.cell (p := ⟨b2, o2 + k * 6 + 4, none⟩) l2).trans c4
      have d5 := (HW.out.cell (p := ⟨b2, o2 + k * 6 + 5, none⟩) l2).trans c5
      have hx := heach.out k hlt
      generalize A k = x at *
      obtain ⟨E, hE⟩ : ∃ E, E = (noneTd x).e := ⟨_, rfl⟩
      obtain ⟨W, hW⟩ : ∃ W, W = (wr.alloc (boxX x)).alloc (boxE E) := ⟨_, rfl⟩
      have hbW : Below wr.heap.size wr W := by rw [hW]; exact ((Below.refl _ _).alloc (Nat.le_refl _) _).alloc (by simp) _
      have hzW : W.heap.size = wr.heap.size + 1 + 1 := by rw [hW]; simp
      have k0 : W.heap[wr.heap.size]? = some (.cells #[.int .i64 x.k, .string x.key, .int .i64 x.stamp, .slice x.val.a x.val.p.length x.val.c, .bool x.dead, .string x.to] 32 (0, 0)) := by rw [hW, Below.heap_alloc _ _ _ (by simp)]; exact heap_alloc_new wr _
      have k1 : W.heap[wr.heap.size + 1]? = some (.cells #[.int .i64 E, .int .i64 0, .int .i64 0, .bool false, .slice none 0 0, .slice none 0 0, .slice none 0 0] 35 (0, 0)) := by
        have := heap_alloc_new (wr.alloc (boxX x)) (boxE E)
        rw [show (wr.alloc (boxX x)).heap.size = wr.heap.size + 1 by simp] at this
        rw [hW]; exact this
      have hcl := call_none x hx W.drew
      have hal := fun z v (hv : TdIs z v (noneTd x)) => alike_same hv (show TdIs z (.agg #[.int .i64 E, .int .i64 0, .int .i64 0, .bool false, .slice none 0 0, .slice none 0 0, .slice none 0 0]) (noneTd x) from ⟨_, _, _, by rw [hE]; rfl, noneAt z x⟩) (noneFine x)
      unfold stepV at hcl
      have HBW := hide_it (HW.out.trans (hbW.mono HW.out.size))
      have hwz := HW.out.size
      unfold boxX boxE at hW
      have hEc : (x.k = 0 ∧ E = 1) ∨ (¬ x.k = 0 ∧ E = 0) := by
        by_cases h0 : x.k = 0
        · exact .inl ⟨h0, by rw [hE]; exact if_pos h0⟩
        · exact .inr ⟨h0, by rw [hE]; exact if_neg h0⟩
      have hl0 : wr.heap.size < W.heap.size := by omega
      have hl1 : wr.heap.size + 1 < W.heap.size := by omega
      clear c0 c1 c2 c3 c4 c5 hrow hx hbW hE heach
      rcases hEc with ⟨h0, rfl⟩ | ⟨h0, rfl⟩
      · have q0 : (x.k == 0) = true := by simpa using h0
        clear h0
        go_wp2_with fail
        rw [← hW]
        clear hW d0 d1 d2 d3 d4 d5
        refine wp_region_held_drew (S := (fun w' => w'.heap[wr.heap.size]? = W.heap[wr.heap.size]? ∧ w'.heap[wr.heap.size + 1]? = W.heap[wr.heap.size + 1]?)) (by kernel_rfl) ?_ (fun hHeld => ?_)
        · exact ⟨rfl, rfl⟩
        refine take_on (i := 0) (v := ?_) rfl rfl (by kernel_rfl) (by kernel_rfl) (by kernel_rfl) (fun _ _ _ h => h) rfl ?_ hHeld ?_
        rotate_left
        · (intro wq hSq; have xk := hSq.1.trans k0; have xt := hSq.2.trans k1; have s0 := cell_of_row _ _ 0 _ _ _ xk; have s1 := cell_of_row _ _ 1 _ _ _ xk; have s2 := cell_of_row _ _ 2 _ _ _ xk; have s3 := cell_of_row _ _ 3 _ _ _ xk; have s4 := cell_of_row _ _ 4 _ _ _ xk; have s5 := cell_of_row _ _ 5 _ _ _ xk; have r0 := cell_of_row _ _ 0 _ _ _ xt; have r1 := cell_of_row _ _ 1 _ _ _ xt; have r2 := cell_of_row _ _ 2 _ _ _ xt; have r3 := cell_of_row _ _ 3 _ _ _ xt; have r4 := cell_of_row _ _ 4 _ _ _ xt; have r5 := cell_of_row _ _ 5 _ _ _ xt; have r6 := cell_of_row _ _ 6 _ _ _ xt; go_simp <;> first | with_reducible rfl | rfl)
        simp only [Act.put, List.setIfInBounds_toArray, List.set_cons_zero, List.set_cons_succ]
        refine take_on (i := 1) (v := ?_) rfl rfl (by kernel_rfl) (by kernel_rfl) (by kernel_rfl) (fun _ _ _ h => h) rfl ?_ hHeld ?_
        rotate_left
        · (intro wq hSq; have xk := hSq.1.trans k0; have xt := hSq.2.trans k1; have s0 := cell_of_row _ _ 0 _ _ _ xk; have s1 := cell_of_row _ _ 1 _ _ _ xk; have s2 := cell_of_row _ _ 2 _ _ _ xk; have s3 := cell_of_row _ _ 3 _ _ _ xk; have s4 := cell_of_row _ _ 4 _ _ _ xk; have s5 := cell_of_row _ _ 5 _ _ _ xk; have r0 := cell_of_row _ _ 0 _ _ _ xt; have r1 := cell_of_row _ _ 1 _ _ _ xt; have r2 := cell_of_row _ _ 2 _ _ _ xt; have r3 := cell_of_row _ _ 3 _ _ _ xt; have r4 := cell_of_row _ _ 4 _ _ _ xt; have r5 := cell_of_row _ _ 5 _ _ _ xt; have r6 := cell_of_row _ _ 6 _ _ _ xt; go_simp <;> first | with_reducible rfl | rfl)
        simp only [Act.put, List.setIfInBounds_toArray, List.set_cons_zero, List.set_cons_succ]
        refine take_on (i := 3) (v := ?_) rfl rfl (by kernel_rfl) (by kernel_rfl) (by kernel_rfl) (fun _ _ _ h => h) rfl ?_ hHeld ?_
        rotate_left
        · (intro wq hSq; have xk := hSq.1.trans k0; have xt := hSq.2.trans k1; have s0 := cell_of_row _ _ 0 _ _ _ xk; have s1 := cell_of_row _ _ 1 _ _ _ xk; have s2 := cell_of_row _ _ 2 _ _ _ xk; have s3 := cell_of_row _ _ 3 _ _ _ xk; have s4 := cell_of_row _ _ 4 _ _ _ xk; have s5 := cell_of_row _ _ 5 _ _ _ xk; have r0 := cell_of_row _ _ 0 _ _ _ xt; have r1 := cell_of_row _ _ 1 _ _ _ xt; have r2 := cell_of_row _ _ 2 _ _ _ xt; have r3 := cell_of_row _ _ 3 _ _ _ xt; have r4 := cell_of_row _ _ 4 _ _ _ xt; have r5 := cell_of_row _ _ 5 _ _ _ xt; have r6 := cell_of_row _ _ 6 _ _ _ xt; go_simp <;> first | with_reducible rfl | rfl)
        simp only [Act.put, List.setIfInBounds_toArray, List.set_cons_zero, List.set_cons_succ]
        refine take_one (i := 2) rfl (by kernel_rfl) (fun K hK => ?_)
        go_simp
        (refine hcl.mono ?_; rintro e z1 ⟨⟨v, rfl, hv⟩, hz1⟩; have hy1 : Below W.heap.size W z1 := (Below.refl _ _).drew.trans hz1; replace hal := hal z1 v hv; clear hv hcl)
        try go_wp2_with fail
        refine hK.out _ _ ?_ (fun hHeld => ?_)
        · exact ⟨hy1.block _ hl0, hy1.block _ hl1⟩
        clear hK K
        try simp only [Act.put, List.setIfInBounds_toArray, List.set_cons_zero, List.set_cons_succ]
        refine take_one (i := 4) rfl (by kernel_rfl) (fun K hK => ?_)
        go_simp
        (refine hal.mono ?_; rintro e z2 ⟨rfl, hz2⟩; have hy2 : Below W.heap.size W z2 := hy1.trans (hz2.mono hy1.size); clear hal)
        try go_wp2_with fail
        refine hK.out _ _ ?_ (fun hHeld => ?_)
        · exact ⟨hy2.block _ hl0, hy2.block _ hl1⟩
        clear hK K
        try simp only [Act.put, List.setIfInBounds_toArray, List.set_cons_zero, List.set_cons_succ]
        refine take_on (i := 5) (v := ?_) rfl rfl (by kernel_rfl) (by kernel_rfl) (by kernel_rfl) (fun _ _ _ h => h) rfl ?_ hHeld ?_
        rotate_left
        · (intro wq hSq; have xk := hSq.1.trans k0; have xt := hSq.2.trans k1; have s0 := cell_of_row _ _ 0 _ _ _ xk; have s1 := cell_of_row _ _ 1 _ _ _ xk; have s2 := cell_of_row _ _ 2 _ _ _ xk; have s3 := cell_of_row _ _ 3 _ _ _ xk; have s4 := cell_of_row _ _ 4 _ _ _ xk; have s5 := cell_of_row _ _ 5 _ _ _ xk; have r0 := cell_of_row _ _ 0 _ _ _ xt; have r1 := cell_of_row _ _ 1 _ _ _ xt; have r2 := cell_of_row _ _ 2 _ _ _ xt; have r3 := cell_of_row _ _ 3 _ _ _ xt; have r4 := cell_of_row _ _ 4 _ _ _ xt; have r5 := cell_of_row _ _ 5 _ _ _ xt; have r6 := cell_of_row _ _ 6 _ _ _ xt; go_simp <;> first | with_reducible rfl | rfl)
        simp only [Act.put, List.setIfInBounds_toArray, List.set_cons_zero, List.set_cons_succ]
        refine wpAnyH_done (by kernel_rfl) ?_ _
        have HY := hide_it (HBW.out.trans (hy2.mono HBW.out.size))
        clear hy1 hy2 hz1 hz2
        go_wp2
        go_roundw
        case rel => exact ⟨k + 1, by omega, by go_num, HY⟩
        case measure => simp [intOf]; omega
      · have q0 : (x.k == 0) = false := by simpa using h0
        clear h0
        go_wp2_with fail
        rw [← hW]
        clear hW d0 d1 d2 d3 d4 d5
        refine wp_region_held_drew (S := (fun w' => w'.heap[wr.heap.size]? = W.heap[wr.heap.size]? ∧ w'.heap[wr.heap.size + 1]? = W.heap[wr.heap.size + 1]?)) (by kernel_rfl) ?_ (fun hHeld => ?_)
        · exact ⟨rfl, rfl⟩
        refine take_on (i := 0) (v := ?_) rfl rfl (by kernel_rfl) (by kernel_rfl) (by kernel_rfl) (fun _ _ _ h => h) rfl ?_ hHeld ?_
        rotate_left
        · (intro wq hSq; have xk := hSq.1.trans k0; have xt := hSq.2.trans k1; have s0 := cell_of_row _ _ 0 _ _ _ xk; have s1 := cell_of_row _ _ 1 _ _ _ xk; have s2 := cell_of_row _ _ 2 _ _ _ xk; have s3 := cell_of_row _ _ 3 _ _ _ xk; have s4 := cell_of_row _ _ 4 _ _ _ xk; have s5 := cell_of_row _ _ 5 _ _ _ xk; have r0 := cell_of_row _ _ 0 _ _ _ xt; have r1 := cell_of_row _ _ 1 _ _ _ xt; have r2 := cell_of_row _ _ 2 _ _ _ xt; have r3 := cell_of_row _ _ 3 _ _ _ xt; have r4 := cell_of_row _ _ 4 _ _ _ xt; have r5 := cell_of_row _ _ 5 _ _ _ xt; have r6 := cell_of_row _ _ 6 _ _ _ xt; go_simp <;> first | with_reducible rfl | rfl)
        simp only [Act.put, List.setIfInBounds_toArray, List.set_cons_zero, List.set_cons_succ]
        refine take_on (i := 1) (v := ?_) rfl rfl (by kernel_rfl) (by kernel_rfl) (by kernel_rfl) (fun _ _ _ h => h) rfl ?_ hHeld ?_
        rotate_left
        · (intro wq hSq; have xk := hSq.1.trans k0; have xt := hSq.2.trans k1; have s0 := cell_of_row _ _ 0 _ _ _ xk; have s1 := cell_of_row _ _ 1 _ _ _ xk; have s2 := cell_of_row _ _ 2 _ _ _ xk; have s3 := cell_of_row _ _ 3 _ _ _ xk; have s4 := cell_of_row _ _ 4 _ _ _ xk; have s5 := cell_of_row _ _ 5 _ _ _ xk; have r0 := cell_of_row _ _ 0 _ _ _ xt; have r1 := cell_of_row _ _ 1 _ _ _ xt; have r2 := cell_of_row _ _ 2 _ _ _ xt; have r3 := cell_of_row _ _ 3 _ _ _ xt; have r4 := cell_of_row _ _ 4 _ _ _ xt; have r5 := cell_of_row _ _ 5 _ _ _ xt; have r6 := cell_of_row _ _ 6 _ _ _ xt; go_simp <;> first | with_reducible rfl | rfl)
        simp only [Act.put, List.setIfInBounds_toArray, List.set_cons_zero, List.set_cons_succ]
        refine take_on (i := 3) (v := ?_) rfl rfl (by kernel_rfl) (by kernel_rfl) (by kernel_rfl) (fun _ _ _ h => h) rfl ?_ hHeld ?_
        rotate_left
        · (intro wq hSq; have xk := hSq.1.trans k0; have xt := hSq.2.trans k1; have s0 := cell_of_row _ _ 0 _ _ _ xk; have s1 := cell_of_row _ _ 1 _ _ _ xk; have s2 := cell_of_row _ _ 2 _ _ _ xk; have s3 := cell_of_row _ _ 3 _ _ _ xk; have s4 := cell_of_row _ _ 4 _ _ _ xk; have s5 := cell_of_row _ _ 5 _ _ _ xk; have r0 := cell_of_row _ _ 0 _ _ _ xt; have r1 := cell_of_row _ _ 1 _ _ _ xt; have r2 := cell_of_row _ _ 2 _ _ _ xt; have r3 := cell_of_row _ _ 3 _ _ _ xt; have r4 := cell_of_row _ _ 4 _ _ _ xt; have r5 := cell_of_row _ _ 5 _ _ _ xt; have r6 := cell_of_row _ _ 6 _ _ _ xt; go_simp <;> first | with_reducible rfl | rfl)
        simp only [Act.put, List.setIfInBounds_toArray, List.set_cons_zero, List.set_cons_succ]
        refine take_one (i := 2) rfl (by kernel_rfl) (fun K hK => ?_)
        go_simp
        (refine hcl.mono ?_; rintro e z1 ⟨⟨v, rfl, hv⟩, hz1⟩; have hy1 : Below W.heap.size W z1 := (Below.refl _ _).drew.trans hz1; replace hal := hal z1 v hv; clear hv hcl)
        try go_wp2_with fail
        refine hK.out _ _ ?_ (fun hHeld => ?_)
        · exact ⟨hy1.block _ hl0, hy1.block _ hl1⟩
        clear hK K
        try simp only [Act.put, List.setIfInBounds_toArray, List.set_cons_zero, List.set_cons_succ]
        refine take_one (i := 4) rfl (by kernel_rfl) (fun K hK => ?_)
        go_simp
        (refine hal.mono ?_; rintro e z2 ⟨rfl, hz2⟩; have hy2 : Below W.heap.size W z2 := hy1.trans (hz2.mono hy1.size); clear hal)
        try go_wp2_with fail
        refine hK.out _ _ ?_ (fun hHeld => ?_)
        · exact ⟨hy2.block _ hl0, hy2.block _ hl1⟩
        clear hK K
        try simp only [Act.put, List.setIfInBounds_toArray, List.set_cons_zero, List.set_cons_succ]
        refine take_on (i := 5) (v := ?_) rfl rfl (by kernel_rfl) (by kernel_rfl) (by kernel_rfl) (fun _ _ _ h => h) rfl ?_ hHeld ?_
        rotate_left
        · (intro wq hSq; have xk := hSq.1.trans k0; have xt := hSq.2.trans k1; have s0 := cell_of_row _ _ 0 _ _ _ xk; have s1 := cell_of_row _ _ 1 _ _ _ xk; have s2 := cell_of_row _ _ 2 _ _ _ xk; have s3 := cell_of_row _ _ 3 _ _ _ xk; have s4 := cell_of_row _ _ 4 _ _ _ xk; have s5 := cell_of_row _ _ 5 _ _ _ xk; have r0 := cell_of_row _ _ 0 _ _ _ xt; have r1 := cell_of_row _ _ 1 _ _ _ xt; have r2 := cell_of_row _ _ 2 _ _ _ xt; have r3 := cell_of_row _ _ 3 _ _ _ xt; have r4 := cell_of_row _ _ 4 _ _ _ xt; have r5 := cell_of_row _ _ 5 _ _ _ xt; have r6 := cell_of_row _ _ 6 _ _ _ xt; go_simp <;> first | with_reducible rfl | rfl)
        simp only [Act.put, List.setIfInBounds_toArray, List.set_cons_zero, List.set_cons_succ]
        refine wpAnyH_done (by kernel_rfl) ?_ _
        have HY := hide_it (HBW.out.trans (hy2.mono HBW.out.size))
        clear hy1 hy2 hz1 hz2
        go_wp2
        go_roundw
        case rel => exact ⟨k + 1, by omega, by go_num, HY⟩
        case measure => simp [intOf]; omega
    · have hn1 : ¬ (k : Int) < (n : Int) := by omega
      go_wp2
      go_ret
      exact ⟨rfl, HW.out⟩

end Go.Proofs.Ytcdlalmahjjbgaa.storeNone
