/- The law on what an Apply leaves as it was told, walked. -/
import Derived.Test.YtcdlalmahjjbgabSo32
namespace Go.Proofs.Ytcdlalmahjjbgab.storeEarlier
open Go.RowKit Go.Maps

set_option maxRecDepth 100000 in
set_option maxHeartbeats 4000000 in
theorem walk (a : Option Addr) (n c : Nat) (A : Nat → Vsn) (v : Vsn) (b : Option Addr) (m cb : Nat) (B : Nat → Stv) (w : World) (ha : CameVsn w a n A) (hv : VsnOk w v) (hb : CameStv w b m B) :
    Calls Try.prog 3 #[.slice a n c, .agg #[.string v.key, .int .i64 v.stamp, .slice v.val.a v.val.p.length v.val.c, .bool v.dead], .slice b m cb] w fun e w' => e = .returned (.bool true) ∧ Below w.heap.size w w' := by
  have hn := ha.size
  have hm := hb.size
  have hrow := hb.row
  have heach := hide_it hb.each
  obtain ⟨w0, hw0⟩ : ∃ w0, w0 = w.alloc (.cells #[.string v.key, .int .i64 v.stamp, .slice v.val.a v.val.p.length v.val.c, .bool v.dead] 25) := ⟨_, rfl⟩
  have hb0 : Below w.heap.size w w0 := by rw [hw0]; exact (Below.refl _ _).alloc (Nat.le_refl _) _
  have kv0 : w0.heap[w.heap.size]? = some (.cells #[.string v.key, .int .i64 v.stamp, .slice v.val.a v.val.p.length v.val.c, .bool v.dead] 25 (0, 0)) := by rw [hw0]; exact heap_alloc_new w _
  have hz0 : w0.heap.size = w.heap.size + 1 := by rw [hw0]; simp
  have hfx := fixed_any w0
  have HA := hide_it ha
  have HV := hide_it hv
  have HB0 := hide_it hb0
  have HKV := hide_it kv0
  have HZ0 := hide_it hz0
  clear ha hv hb hb0 kv0 hz0
  go_enter Try.func3, Try.ntmps3
  go_wp2_with fail
  rw [← hw0]
  clear hw0
  refine hfx.mono ?_
  rintro e w1 ⟨rfl, hb1⟩
  have HB1 := hide_it (HB0.out.trans (hb1.mono HB0.out.size))
  have hvl0 : w.heap.size < w1.heap.size := by have := HZ0.out; have := hb1.size; omega
  have kv1 : w1.heap[w.heap.size]? = _ := (hb1.block w.heap.size (by have := HZ0.out; omega)).trans HKV.out
  have HKV1 := hide_it kv1
  have hf1 := filled_any a n c A w1 (HA.out.below HB1.out)
  clear hfx hb1 kv1 HKV HB0 HZ0
  go_wp2_with fail
  refine hf1.mono ?_
  rintro e w2 ⟨rfl, hF1, hK1⟩
  have hf2 := filled_any a n c A w2 (HA.out.below (HB1.out.trans (hF1.bel.mono HB1.out.size)))
  have HF1 := hide_it hF1
  have HK1 := hide_it (hK1.mono (Nat.le_refl n))
  clear hf1 hF1 hK1
  go_wp2_with fail
  refine hf2.mono ?_
  rintro e w3 ⟨rfl, hF2, _⟩
  have hD := duo_fil HF1.out hF2
  obtain ⟨s1, hs1⟩ : ∃ s, s = w1.heap.size := ⟨_, rfl⟩
  obtain ⟨s2, hs2⟩ : ∃ s, s = w2.heap.size := ⟨_, rfl⟩
  obtain ⟨C, hC⟩ : ∃ C, C = filA A n := ⟨_, rfl⟩
  rw [← hs1, ← hs2, ← hC] at hD
  rw [← hs1, ← hs2]
  rw [← hC] at HK1
  have hfin := HK1.out.fine (by omega)
  have HC := hide_it hfin
  have HC2 := hide_it ((applyA_fine HK1.out hD.nodup (vnV v)).fine (by omega))
  have hap := hD.app hfin v (HV.out.below HB1.out)
  unfold verV vnV at hap
  have kv3 : w3.heap[w.heap.size]? = _ := (hD.bel.block w.heap.size hvl0).trans HKV1.out
  have r0 := cell_of_row _ _ 0 _ _ _ kv3
  have r1 := cell_of_row _ _ 1 _ _ _ kv3
  have r2 := cell_of_row _ _ 2 _ _ _ kv3
  have r3 := cell_of_row _ _ 3 _ _ _ kv3
  clear hf2 hF2 hD hs1 hs2 hC HK1 HF1 HA hfin kv3
  go_wp2_with fail
  refine hap.mono ?_
  rintro e w4 ⟨⟨g, rfl⟩, hD⟩
  have HD0 := hide_it hD
  clear hap hD r0 r1 r2 r3
  go_wp2_with fail
  go_loopw [22, 10] (fun i _ wr => ∃ k : Nat, k ≤ m ∧ i = .int .i64 (k : Int) ∧ Hid (Duo w1 wr s1 s2 (applyA C (vnV v)) C)) (fun i _ _ => m - (intOf i).toNat)
  case atStart => exact ⟨0, by omega, rfl, HD0⟩
  case round =>
    clear HD0
    obtain ⟨k, hk, rfl, HD⟩ := hrel
    by_cases hlt : k < m
    · have hki : (k : Int) < (m : Int) := by omega
      have hw1 : IntKind.i64.wrap ((k : Int) + 1) = (k : Int) + 1 := i64_in (by omega) (by omega)
      have hbwr := HB1.out.trans (HD.out.bel.mono HB1.out.size)
      obtain ⟨b2, o2, rfl, l2, c0, c1, c2, c3, c4, c5⟩ := hrow.here hlt
      have d0 := (hbwr.cell (p := ⟨b2, o2 + k * 6, none⟩) l2).trans c0
      have d1 := (hbwr.cell (p := ⟨b2, o2 + k * 6 + 1, none⟩) l2).trans c1
      have d2 := (hbwr.cell (p := ⟨b2, o2 + k * 6 + 2, none⟩) l2).trans c2
      have d3 := (hbwr.cell (p := ⟨b2, o2 + k * 6 + 3, none⟩) l2).trans c3
      have d4 := (hbwr.cell (p := ⟨b2, o2 + k * 6 + 4, none⟩) l2).trans c4
      have d5 := (hbwr.cell (p := ⟨b2, o2 + k * 6 + 5, none⟩) l2).trans c5
      have hx := (heach.out k hlt).below HB1.out
      clear hbwr
      generalize B k = x at *
      obtain ⟨W, hW⟩ : ∃ W, W = wr.alloc (boxX x) := ⟨_, rfl⟩
      have hbW : Below wr.heap.size wr W := by rw [hW]; exact (Below.refl _ _).alloc (Nat.le_refl _) _
      have hzW : W.heap.size = wr.heap.size + 1 := by rw [hW]; simp
      have k0 : W.heap[wr.heap.size]? = some (.cells #[.int .i64 x.k, .string x.key, .int .i64 x.stamp, .slice x.val.a x.val.p.length x.val.c, .bool x.dead, .string x.to] 33 (0, 0)) := by rw [hW]; exact heap_alloc_new wr _
      have hX := HD.out.x hbW (by omega)
      have hvl := hvl0
      have kv : W.heap[w.heap.size]? = some (.cells #[.string v.key, .int .i64 v.stamp, .slice v.val.a v.val.p.length v.val.c, .bool v.dead] 25 (0, 0)) := (hX.bel.block w.heap.size hvl).trans HKV1.out
      have hvW : w1.heap[w.heap.size]? = W.heap[w.heap.size]? := HKV1.out.trans kv.symm
      unfold boxX at hW
      by_cases hst : x.stamp < v.stamp
      · have hd1 : decide (x.stamp < v.stamp) = true := decide_eq_true hst
        by_cases hk1 : x.k = 1
        · skip
          have q1 : (x.k == 1) = true := by rw [hk1]; rfl
          have q3 : (x.k == 3) = false := by rw [hk1]; rfl
          have hk13 : x.k = 1 ∨ x.k = 3 := by omega
          have hcl := (hX.below ((Below.refl _ _).drew)).bothS HC2.out HC.out x hx
          rw [td_earlier HD.out.swap.nodup (vnV v) x hst hk13, next_same _ x hk13, next_same _ x hk13] at hcl
          have htf := td_fineS HC.out x hk13
          have hal := fun z v1 v2 (a1 : TdIs z v1 (tdA C x)) (a2 : TdIs z v2 (tdA C x)) => alike_same a1 a2 htf
          unfold stepV at hcl
          have hl0 : wr.heap.size < W.heap.size := by omega
          clear c0 c1 c2 c3 c4 c5 hrow hx hbW heach hX HD HC HC2 htf hk13 hk1 hst
          go_wp2_with fail
          rw [← hW]
          clear hW d0 d1 d2 d3 d4 d5
          refine wp_region_held_drew (S := (fun w' => w'.heap[wr.heap.size]? = W.heap[wr.heap.size]? ∧ w'.heap[w.heap.size]? = W.heap[w.heap.size]?)) (by kernel_rfl) ?_ (fun hHeld => ?_)
          · exact ⟨rfl, rfl⟩
          refine take_on (i := 0) (v := ?_) rfl rfl (by kernel_rfl) (by kernel_rfl) (by kernel_rfl) (fun _ _ _ h => h) rfl ?_ hHeld ?_
          rotate_left
          · (intro wq hSq; have xk := hSq.1.trans k0; have xv := hSq.2.trans kv; have t0 := cell_of_row _ _ 0 _ _ _ xk; have t1 := cell_of_row _ _ 1 _ _ _ xk; have t2 := cell_of_row _ _ 2 _ _ _ xk; have t3 := cell_of_row _ _ 3 _ _ _ xk; have t4 := cell_of_row _ _ 4 _ _ _ xk; have t5 := cell_of_row _ _ 5 _ _ _ xk; have u1 := cell_of_row _ _ 1 _ _ _ xv; go_simp <;> first | with_reducible rfl | rfl)
          simp only [Act.put, List.setIfInBounds_toArray, List.set_cons_zero, List.set_cons_succ]
          refine take_on (i := 1) (v := ?_) rfl rfl (by kernel_rfl) (by kernel_rfl) (by kernel_rfl) (fun _ _ _ h => h) rfl ?_ hHeld ?_
          rotate_left
          · (intro wq hSq; have xk := hSq.1.trans k0; have xv := hSq.2.trans kv; have t0 := cell_of_row _ _ 0 _ _ _ xk; have t1 := cell_of_row _ _ 1 _ _ _ xk; have t2 := cell_of_row _ _ 2 _ _ _ xk; have t3 := cell_of_row _ _ 3 _ _ _ xk; have t4 := cell_of_row _ _ 4 _ _ _ xk; have t5 := cell_of_row _ _ 5 _ _ _ xk; have u1 := cell_of_row _ _ 1 _ _ _ xv; go_simp <;> first | with_reducible rfl | rfl)
          simp only [Act.put, List.setIfInBounds_toArray, List.set_cons_zero, List.set_cons_succ]
          refine take_on (i := 2) (v := ?_) rfl rfl (by kernel_rfl) (by kernel_rfl) (by kernel_rfl) (fun _ _ _ h => h) rfl ?_ hHeld ?_
          rotate_left
          · (intro wq hSq; have xk := hSq.1.trans k0; have xv := hSq.2.trans kv; have t0 := cell_of_row _ _ 0 _ _ _ xk; have t1 := cell_of_row _ _ 1 _ _ _ xk; have t2 := cell_of_row _ _ 2 _ _ _ xk; have t3 := cell_of_row _ _ 3 _ _ _ xk; have t4 := cell_of_row _ _ 4 _ _ _ xk; have t5 := cell_of_row _ _ 5 _ _ _ xk; have u1 := cell_of_row _ _ 1 _ _ _ xv; go_simp <;> first | with_reducible rfl | rfl)
          simp only [Act.put, List.setIfInBounds_toArray, List.set_cons_zero, List.set_cons_succ]
          refine take_on (i := 3) (v := ?_) rfl rfl (by kernel_rfl) (by kernel_rfl) (by kernel_rfl) (fun _ _ _ h => h) rfl ?_ hHeld ?_
          rotate_left
          · (intro wq hSq; have xk := hSq.1.trans k0; have xv := hSq.2.trans kv; have t0 := cell_of_row _ _ 0 _ _ _ xk; have t1 := cell_of_row _ _ 1 _ _ _ xk; have t2 := cell_of_row _ _ 2 _ _ _ xk; have t3 := cell_of_row _ _ 3 _ _ _ xk; have t4 := cell_of_row _ _ 4 _ _ _ xk; have t5 := cell_of_row _ _ 5 _ _ _ xk; have u1 := cell_of_row _ _ 1 _ _ _ xv; go_simp <;> first | with_reducible rfl | rfl)
          simp only [Act.put, List.setIfInBounds_toArray, List.set_cons_zero, List.set_cons_succ]
          refine take_on (i := 4) (v := ?_) rfl rfl (by kernel_rfl) (by kernel_rfl) (by kernel_rfl) (fun _ _ _ h => h) rfl ?_ hHeld ?_
          rotate_left
          · (intro wq hSq; have xk := hSq.1.trans k0; have xv := hSq.2.trans kv; have t0 := cell_of_row _ _ 0 _ _ _ xk; have t1 := cell_of_row _ _ 1 _ _ _ xk; have t2 := cell_of_row _ _ 2 _ _ _ xk; have t3 := cell_of_row _ _ 3 _ _ _ xk; have t4 := cell_of_row _ _ 4 _ _ _ xk; have t5 := cell_of_row _ _ 5 _ _ _ xk; have u1 := cell_of_row _ _ 1 _ _ _ xv; go_simp <;> first | with_reducible rfl | rfl)
          simp only [Act.put, List.setIfInBounds_toArray, List.set_cons_zero, List.set_cons_succ]
          refine take_on (i := 5) (v := ?_) rfl rfl (by kernel_rfl) (by kernel_rfl) (by kernel_rfl) (fun _ _ _ h => h) rfl ?_ hHeld ?_
          rotate_left
          · (intro wq hSq; have xk := hSq.1.trans k0; have xv := hSq.2.trans kv; have t0 := cell_of_row _ _ 0 _ _ _ xk; have t1 := cell_of_row _ _ 1 _ _ _ xk; have t2 := cell_of_row _ _ 2 _ _ _ xk; have t3 := cell_of_row _ _ 3 _ _ _ xk; have t4 := cell_of_row _ _ 4 _ _ _ xk; have t5 := cell_of_row _ _ 5 _ _ _ xk; have u1 := cell_of_row _ _ 1 _ _ _ xv; go_simp <;> first | with_reducible rfl | rfl)
          simp only [Act.put, List.setIfInBounds_toArray, List.set_cons_zero, List.set_cons_succ]
          refine take_on (i := 6) (v := ?_) rfl rfl (by kernel_rfl) (by kernel_rfl) (by kernel_rfl) (fun _ _ _ h => h) rfl ?_ hHeld ?_
          rotate_left
          · (intro wq hSq; have xk := hSq.1.trans k0; have xv := hSq.2.trans kv; have t0 := cell_of_row _ _ 0 _ _ _ xk; have t1 := cell_of_row _ _ 1 _ _ _ xk; have t2 := cell_of_row _ _ 2 _ _ _ xk; have t3 := cell_of_row _ _ 3 _ _ _ xk; have t4 := cell_of_row _ _ 4 _ _ _ xk; have t5 := cell_of_row _ _ 5 _ _ _ xk; have u1 := cell_of_row _ _ 1 _ _ _ xv; go_simp <;> first | with_reducible rfl | rfl)
          simp only [Act.put, List.setIfInBounds_toArray, List.set_cons_zero, List.set_cons_succ]
          refine take_on (i := 7) (v := ?_) rfl rfl (by kernel_rfl) (by kernel_rfl) (by kernel_rfl) (fun _ _ _ h => h) rfl ?_ hHeld ?_
          rotate_left
          · (intro wq hSq; have xk := hSq.1.trans k0; have xv := hSq.2.trans kv; have t0 := cell_of_row _ _ 0 _ _ _ xk; have t1 := cell_of_row _ _ 1 _ _ _ xk; have t2 := cell_of_row _ _ 2 _ _ _ xk; have t3 := cell_of_row _ _ 3 _ _ _ xk; have t4 := cell_of_row _ _ 4 _ _ _ xk; have t5 := cell_of_row _ _ 5 _ _ _ xk; have u1 := cell_of_row _ _ 1 _ _ _ xv; go_simp <;> first | with_reducible rfl | rfl)
          simp only [Act.put, List.setIfInBounds_toArray, List.set_cons_zero, List.set_cons_succ]
          refine take_on (i := 8) (v := ?_) rfl rfl (by kernel_rfl) (by kernel_rfl) (by kernel_rfl) (fun _ _ _ h => h) rfl ?_ hHeld ?_
          rotate_left
          · (intro wq hSq; have xk := hSq.1.trans k0; have xv := hSq.2.trans kv; have t0 := cell_of_row _ _ 0 _ _ _ xk; have t1 := cell_of_row _ _ 1 _ _ _ xk; have t2 := cell_of_row _ _ 2 _ _ _ xk; have t3 := cell_of_row _ _ 3 _ _ _ xk; have t4 := cell_of_row _ _ 4 _ _ _ xk; have t5 := cell_of_row _ _ 5 _ _ _ xk; have u1 := cell_of_row _ _ 1 _ _ _ xv; go_simp <;> first | with_reducible rfl | rfl)
          simp only [Act.put, List.setIfInBounds_toArray, List.set_cons_zero, List.set_cons_succ]
          refine take_on (i := 9) (v := ?_) rfl rfl (by kernel_rfl) (by kernel_rfl) (by kernel_rfl) (fun _ _ _ h => h) rfl ?_ hHeld ?_
          rotate_left
          · (intro wq hSq; have xk := hSq.1.trans k0; have xv := hSq.2.trans kv; have t0 := cell_of_row _ _ 0 _ _ _ xk; have t1 := cell_of_row _ _ 1 _ _ _ xk; have t2 := cell_of_row _ _ 2 _ _ _ xk; have t3 := cell_of_row _ _ 3 _ _ _ xk; have t4 := cell_of_row _ _ 4 _ _ _ xk; have t5 := cell_of_row _ _ 5 _ _ _ xk; have u1 := cell_of_row _ _ 1 _ _ _ xv; go_simp <;> first | with_reducible rfl | rfl)
          simp only [Act.put, List.setIfInBounds_toArray, List.set_cons_zero, List.set_cons_succ]
          refine take_on (i := 10) (v := ?_) rfl rfl (by kernel_rfl) (by kernel_rfl) (by kernel_rfl) (fun _ _ _ h => h) rfl ?_ hHeld ?_
          rotate_left
          · (intro wq hSq; have xk := hSq.1.trans k0; have xv := hSq.2.trans kv; have t0 := cell_of_row _ _ 0 _ _ _ xk; have t1 := cell_of_row _ _ 1 _ _ _ xk; have t2 := cell_of_row _ _ 2 _ _ _ xk; have t3 := cell_of_row _ _ 3 _ _ _ xk; have t4 := cell_of_row _ _ 4 _ _ _ xk; have t5 := cell_of_row _ _ 5 _ _ _ xk; have u1 := cell_of_row _ _ 1 _ _ _ xv; go_simp <;> first | with_reducible rfl | rfl)
          simp only [Act.put, List.setIfInBounds_toArray, List.set_cons_zero, List.set_cons_succ]
          refine take_off (i := 11) rfl rfl (by kernel_rfl) (by kernel_rfl) (by kernel_rfl) (fun _ _ _ h => h) rfl hHeld ?_
          simp only [Act.put, List.setIfInBounds_toArray, List.set_cons_zero, List.set_cons_succ]
          refine take_off (i := 12) rfl rfl (by kernel_rfl) (by kernel_rfl) (by kernel_rfl) (fun _ _ _ h => h) rfl hHeld ?_
          simp only [Act.put, List.setIfInBounds_toArray, List.set_cons_zero, List.set_cons_succ]
          refine take_off (i := 13) rfl rfl (by kernel_rfl) (by kernel_rfl) (by kernel_rfl) (fun _ _ _ h => h) rfl hHeld ?_
          simp only [Act.put, List.setIfInBounds_toArray, List.set_cons_zero, List.set_cons_succ]
          refine take_on (i := 14) (v := ?_) rfl rfl (by kernel_rfl) (by kernel_rfl) (by kernel_rfl) (fun _ _ _ h => h) rfl ?_ hHeld ?_
          rotate_left
          · (intro wq hSq; have xk := hSq.1.trans k0; have xv := hSq.2.trans kv; have t0 := cell_of_row _ _ 0 _ _ _ xk; have t1 := cell_of_row _ _ 1 _ _ _ xk; have t2 := cell_of_row _ _ 2 _ _ _ xk; have t3 := cell_of_row _ _ 3 _ _ _ xk; have t4 := cell_of_row _ _ 4 _ _ _ xk; have t5 := cell_of_row _ _ 5 _ _ _ xk; have u1 := cell_of_row _ _ 1 _ _ _ xv; go_simp <;> first | with_reducible rfl | rfl)
          simp only [Act.put, List.setIfInBounds_toArray, List.set_cons_zero, List.set_cons_succ]
          refine take_on (i := 15) (v := ?_) rfl rfl (by kernel_rfl) (by kernel_rfl) (by kernel_rfl) (fun _ _ _ h => h) rfl ?_ hHeld ?_
          rotate_left
          · (intro wq hSq; have xk := hSq.1.trans k0; have xv := hSq.2.trans kv; have t0 := cell_of_row _ _ 0 _ _ _ xk; have t1 := cell_of_row _ _ 1 _ _ _ xk; have t2 := cell_of_row _ _ 2 _ _ _ xk; have t3 := cell_of_row _ _ 3 _ _ _ xk; have t4 := cell_of_row _ _ 4 _ _ _ xk; have t5 := cell_of_row _ _ 5 _ _ _ xk; have u1 := cell_of_row _ _ 1 _ _ _ xv; go_simp <;> first | with_reducible rfl | rfl)
          simp only [Act.put, List.setIfInBounds_toArray, List.set_cons_zero, List.set_cons_succ]
          refine take_on (i := 16) (v := ?_) rfl rfl (by kernel_rfl) (by kernel_rfl) (by kernel_rfl) (fun _ _ _ h => h) rfl ?_ hHeld ?_
          rotate_left
          · (intro wq hSq; have xk := hSq.1.trans k0; have xv := hSq.2.trans kv; have t0 := cell_of_row _ _ 0 _ _ _ xk; have t1 := cell_of_row _ _ 1 _ _ _ xk; have t2 := cell_of_row _ _ 2 _ _ _ xk; have t3 := cell_of_row _ _ 3 _ _ _ xk; have t4 := cell_of_row _ _ 4 _ _ _ xk; have t5 := cell_of_row _ _ 5 _ _ _ xk; have u1 := cell_of_row _ _ 1 _ _ _ xv; go_simp <;> first | with_reducible rfl | rfl)
          simp only [Act.put, List.setIfInBounds_toArray, List.set_cons_zero, List.set_cons_succ]
          refine take_on (i := 17) (v := ?_) rfl rfl (by kernel_rfl) (by kernel_rfl) (by kernel_rfl) (fun _ _ _ h => h) rfl ?_ hHeld ?_
          rotate_left
          · (intro wq hSq; have xk := hSq.1.trans k0; have xv := hSq.2.trans kv; have t0 := cell_of_row _ _ 0 _ _ _ xk; have t1 := cell_of_row _ _ 1 _ _ _ xk; have t2 := cell_of_row _ _ 2 _ _ _ xk; have t3 := cell_of_row _ _ 3 _ _ _ xk; have t4 := cell_of_row _ _ 4 _ _ _ xk; have t5 := cell_of_row _ _ 5 _ _ _ xk; have u1 := cell_of_row _ _ 1 _ _ _ xv; go_simp <;> first | with_reducible rfl | rfl)
          simp only [Act.put, List.setIfInBounds_toArray, List.set_cons_zero, List.set_cons_succ]
          refine take_on (i := 18) (v := ?_) rfl rfl (by kernel_rfl) (by kernel_rfl) (by kernel_rfl) (fun _ _ _ h => h) rfl ?_ hHeld ?_
          rotate_left
          · (intro wq hSq; have xk := hSq.1.trans k0; have xv := hSq.2.trans kv; have t0 := cell_of_row _ _ 0 _ _ _ xk; have t1 := cell_of_row _ _ 1 _ _ _ xk; have t2 := cell_of_row _ _ 2 _ _ _ xk; have t3 := cell_of_row _ _ 3 _ _ _ xk; have t4 := cell_of_row _ _ 4 _ _ _ xk; have t5 := cell_of_row _ _ 5 _ _ _ xk; have u1 := cell_of_row _ _ 1 _ _ _ xv; go_simp <;> first | with_reducible rfl | rfl)
          simp only [Act.put, List.setIfInBounds_toArray, List.set_cons_zero, List.set_cons_succ]
          refine take_on (i := 20) (v := ?_) rfl rfl (by kernel_rfl) (by kernel_rfl) (by kernel_rfl) (fun _ _ _ h => h) rfl ?_ hHeld ?_
          rotate_left
          · (intro wq hSq; have xk := hSq.1.trans k0; have xv := hSq.2.trans kv; have t0 := cell_of_row _ _ 0 _ _ _ xk; have t1 := cell_of_row _ _ 1 _ _ _ xk; have t2 := cell_of_row _ _ 2 _ _ _ xk; have t3 := cell_of_row _ _ 3 _ _ _ xk; have t4 := cell_of_row _ _ 4 _ _ _ xk; have t5 := cell_of_row _ _ 5 _ _ _ xk; have u1 := cell_of_row _ _ 1 _ _ _ xv; go_simp <;> first | with_reducible rfl | rfl)
          simp only [Act.put, List.setIfInBounds_toArray, List.set_cons_zero, List.set_cons_succ]
          refine take_on (i := 21) (v := ?_) rfl rfl (by kernel_rfl) (by kernel_rfl) (by kernel_rfl) (fun _ _ _ h => h) rfl ?_ hHeld ?_
          rotate_left
          · (intro wq hSq; have xk := hSq.1.trans k0; have xv := hSq.2.trans kv; have t0 := cell_of_row _ _ 0 _ _ _ xk; have t1 := cell_of_row _ _ 1 _ _ _ xk; have t2 := cell_of_row _ _ 2 _ _ _ xk; have t3 := cell_of_row _ _ 3 _ _ _ xk; have t4 := cell_of_row _ _ 4 _ _ _ xk; have t5 := cell_of_row _ _ 5 _ _ _ xk; have u1 := cell_of_row _ _ 1 _ _ _ xv; go_simp <;> first | with_reducible rfl | rfl)
          simp only [Act.put, List.setIfInBounds_toArray, List.set_cons_zero, List.set_cons_succ]
          refine take_one (i := 19) rfl (by kernel_rfl) (fun K hK => ?_)
          go_simp
          (refine hcl.mono ?_; rintro e z1 ⟨v1, rfl, hy1, hb1, hcl2⟩; clear hcl)
          try go_wp2_with fail
          refine hK.out _ _ ?_ (fun hHeld => ?_)
          · exact ⟨hy1, (hb1.block _ hvl).trans hvW⟩
          clear hK K
          try simp only [Act.put, List.setIfInBounds_toArray, List.set_cons_zero, List.set_cons_succ]
          refine take_one (i := 22) rfl (by kernel_rfl) (fun K hK => ?_)
          go_simp
          (refine hcl2.mono ?_; rintro e z2 ⟨v2, rfl, hv1, hv2, hX2, hy2⟩; replace hal := hal z2 v1 v2 hv1 hv2; have hy3 := hX2.bel; clear hv1 hv2 hcl2)
          try go_wp2_with fail
          refine hK.out _ _ ?_ (fun hHeld => ?_)
          · exact ⟨hy2, (hy3.block _ hvl).trans hvW⟩
          clear hK K
          try simp only [Act.put, List.setIfInBounds_toArray, List.set_cons_zero, List.set_cons_succ]
          refine take_one (i := 23) rfl (by kernel_rfl) (fun K hK => ?_)
          go_simp
          (refine hal.mono ?_; rintro e z3 ⟨rfl, hz3⟩; have hX3 := hX2.below hz3; clear hal)
          try go_wp2_with fail
          refine hK.out _ _ ?_ (fun hHeld => ?_)
          · exact ⟨(hz3.block _ hX2.lt).trans hy2, (hX3.bel.block _ hvl).trans hvW⟩
          clear hK K
          try simp only [Act.put, List.setIfInBounds_toArray, List.set_cons_zero, List.set_cons_succ]
          refine take_on (i := 24) (v := ?_) rfl rfl (by kernel_rfl) (by kernel_rfl) (by kernel_rfl) (fun _ _ _ h => h) rfl ?_ hHeld ?_
          rotate_left
          · (intro wq hSq; have xk := hSq.1.trans k0; have xv := hSq.2.trans kv; have t0 := cell_of_row _ _ 0 _ _ _ xk; have t1 := cell_of_row _ _ 1 _ _ _ xk; have t2 := cell_of_row _ _ 2 _ _ _ xk; have t3 := cell_of_row _ _ 3 _ _ _ xk; have t4 := cell_of_row _ _ 4 _ _ _ xk; have t5 := cell_of_row _ _ 5 _ _ _ xk; have u1 := cell_of_row _ _ 1 _ _ _ xv; go_simp <;> first | with_reducible rfl | rfl)
          simp only [Act.put, List.setIfInBounds_toArray, List.set_cons_zero, List.set_cons_succ]
          refine take_on (i := 25) (v := ?_) rfl rfl (by kernel_rfl) (by kernel_rfl) (by kernel_rfl) (fun _ _ _ h => h) rfl ?_ hHeld ?_
          rotate_left
          · (intro wq hSq; have xk := hSq.1.trans k0; have xv := hSq.2.trans kv; have t0 := cell_of_row _ _ 0 _ _ _ xk; have t1 := cell_of_row _ _ 1 _ _ _ xk; have t2 := cell_of_row _ _ 2 _ _ _ xk; have t3 := cell_of_row _ _ 3 _ _ _ xk; have t4 := cell_of_row _ _ 4 _ _ _ xk; have t5 := cell_of_row _ _ 5 _ _ _ xk; have u1 := cell_of_row _ _ 1 _ _ _ xv; go_simp <;> first | with_reducible rfl | rfl)
          simp only [Act.put, List.setIfInBounds_toArray, List.set_cons_zero, List.set_cons_succ]
          refine wpAnyH_done (by kernel_rfl) ?_ _
          have HY := hide_it hX3.duo
          clear hX2 hX3 hz3 hy1 hy2 hy3
          go_wp2
          go_roundw
          case rel => exact ⟨k + 1, by omega, by go_num, HY⟩
          case measure => simp [intOf]; omega
        · by_cases hk3 : x.k = 3
          · skip
            have q1 : (x.k == 1) = false := by rw [hk3]; rfl
            have q3 : (x.k == 3) = true := by rw [hk3]; rfl
            have hk13 : x.k = 1 ∨ x.k = 3 := by omega
            have hcl := (hX.below ((Below.refl _ _).drew)).bothS HC2.out HC.out x hx
            rw [td_earlier HD.out.swap.nodup (vnV v) x hst hk13, next_same _ x hk13, next_same _ x hk13] at hcl
            have htf := td_fineS HC.out x hk13
            have hal := fun z v1 v2 (a1 : TdIs z v1 (tdA C x)) (a2 : TdIs z v2 (tdA C x)) => alike_same a1 a2 htf
            unfold stepV at hcl
            have hl0 : wr.heap.size < W.heap.size := by omega
            clear c0 c1 c2 c3 c4 c5 hrow hx hbW heach hX HD HC HC2 htf hk13 hk3 hst
            go_wp2_with fail
            rw [← hW]
            clear hW d0 d1 d2 d3 d4 d5
            refine wp_region_held_drew (S := (fun w' => w'.heap[wr.heap.size]? = W.heap[wr.heap.size]? ∧ w'.heap[w.heap.size]? = W.heap[w.heap.size]?)) (by kernel_rfl) ?_ (fun hHeld => ?_)
            · exact ⟨rfl, rfl⟩
            refine take_on (i := 0) (v := ?_) rfl rfl (by kernel_rfl) (by kernel_rfl) (by kernel_rfl) (fun _ _ _ h => h) rfl ?_ hHeld ?_
            rotate_left
            · (intro wq hSq; have xk := hSq.1.trans k0; have xv := hSq.2.trans kv; have t0 := cell_of_row _ _ 0 _ _ _ xk; have t1 := cell_of_row _ _ 1 _ _ _ xk; have t2 := cell_of_row _ _ 2 _ _ _ xk; have t3 := cell_of_row _ _ 3 _ _ _ xk; have t4 := cell_of_row _ _ 4 _ _ _ xk; have t5 := cell_of_row _ _ 5 _ _ _ xk; have u1 := cell_of_row _ _ 1 _ _ _ xv; go_simp <;> first | with_reducible rfl | rfl)
            simp only [Act.put, List.setIfInBounds_toArray, List.set_cons_zero, List.set_cons_succ]
            refine take_on (i := 1) (v := ?_) rfl rfl (by kernel_rfl) (by kernel_rfl) (by kernel_rfl) (fun _ _ _ h => h) rfl ?_ hHeld ?_
            rotate_left
            · (intro wq hSq; have xk := hSq.1.trans k0; have xv := hSq.2.trans kv; have t0 := cell_of_row _ _ 0 _ _ _ xk; have t1 := cell_of_row _ _ 1 _ _ _ xk; have t2 := cell_of_row _ _ 2 _ _ _ xk; have t3 := cell_of_row _ _ 3 _ _ _ xk; have t4 := cell_of_row _ _ 4 _ _ _ xk; have t5 := cell_of_row _ _ 5 _ _ _ xk; have u1 := cell_of_row _ _ 1 _ _ _ xv; go_simp <;> first | with_reducible rfl | rfl)
            simp only [Act.put, List.setIfInBounds_toArray, List.set_cons_zero, List.set_cons_succ]
            refine take_on (i := 2) (v := ?_) rfl rfl (by kernel_rfl) (by kernel_rfl) (by kernel_rfl) (fun _ _ _ h => h) rfl ?_ hHeld ?_
            rotate_left
            · (intro wq hSq; have xk := hSq.1.trans k0; have xv := hSq.2.trans kv; have t0 := cell_of_row _ _ 0 _ _ _ xk; have t1 := cell_of_row _ _ 1 _ _ _ xk; have t2 := cell_of_row _ _ 2 _ _ _ xk; have t3 := cell_of_row _ _ 3 _ _ _ xk; have t4 := cell_of_row _ _ 4 _ _ _ xk; have t5 := cell_of_row _ _ 5 _ _ _ xk; have u1 := cell_of_row _ _ 1 _ _ _ xv; go_simp <;> first | with_reducible rfl | rfl)
            simp only [Act.put, List.setIfInBounds_toArray, List.set_cons_zero, List.set_cons_succ]
            refine take_on (i := 3) (v := ?_) rfl rfl (by kernel_rfl) (by kernel_rfl) (by kernel_rfl) (fun _ _ _ h => h) rfl ?_ hHeld ?_
            rotate_left
            · (intro wq hSq; have xk := hSq.1.trans k0; have xv := hSq.2.trans kv; have t0 := cell_of_row _ _ 0 _ _ _ xk; have t1 := cell_of_row _ _ 1 _ _ _ xk; have t2 := cell_of_row _ _ 2 _ _ _ xk; have t3 := cell_of_row _ _ 3 _ _ _ xk; have t4 := cell_of_row _ _ 4 _ _ _ xk; have t5 := cell_of_row _ _ 5 _ _ _ xk; have u1 := cell_of_row _ _ 1 _ _ _ xv; go_simp <;> first | with_reducible rfl | rfl)
            simp only [Act.put, List.setIfInBounds_toArray, List.set_cons_zero, List.set_cons_succ]
            refine take_on (i := 4) (v := ?_) rfl rfl (by kernel_rfl) (by kernel_rfl) (by kernel_rfl) (fun _ _ _ h => h) rfl ?_ hHeld ?_
            rotate_left
            · (intro wq hSq; have xk := hSq.1.trans k0; have xv := hSq.2.trans kv; have t0 := cell_of_row _ _ 0 _ _ _ xk; have t1 := cell_of_row _ _ 1 _ _ _ xk; have t2 := cell_of_row _ _ 2 _ _ _ xk; have t3 := cell_of_row _ _ 3 _ _ _ xk; have t4 := cell_of_row _ _ 4 _ _ _ xk; have t5 := cell_of_row _ _ 5 _ _ _ xk; have u1 := cell_of_row _ _ 1 _ _ _ xv; go_simp <;> first | with_reducible rfl | rfl)
            simp only [Act.put, List.setIfInBounds_toArray, List.set_cons_zero, List.set_cons_succ]
            refine take_on (i := 5) (v := ?_) rfl rfl (by kernel_rfl) (by kernel_rfl) (by kernel_rfl) (fun _ _ _ h => h) rfl ?_ hHeld ?_
            rotate_left
            · (intro wq hSq; have xk := hSq.1.trans k0; have xv := hSq.2.trans kv; have t0 := cell_of_row _ _ 0 _ _ _ xk; have t1 := cell_of_row _ _ 1 _ _ _ xk; have t2 := cell_of_row _ _ 2 _ _ _ xk; have t3 := cell_of_row _ _ 3 _ _ _ xk; have t4 := cell_of_row _ _ 4 _ _ _ xk; have t5 := cell_of_row _ _ 5 _ _ _ xk; have u1 := cell_of_row _ _ 1 _ _ _ xv; go_simp <;> first | with_reducible rfl | rfl)
            simp only [Act.put, List.setIfInBounds_toArray, List.set_cons_zero, List.set_cons_succ]
            refine take_on (i := 6) (v := ?_) rfl rfl (by kernel_rfl) (by kernel_rfl) (by kernel_rfl) (fun _ _ _ h => h) rfl ?_ hHeld ?_
            rotate_left
            · (intro wq hSq; have xk := hSq.1.trans k0; have xv := hSq.2.trans kv; have t0 := cell_of_row _ _ 0 _ _ _ xk; have t1 := cell_of_row _ _ 1 _ _ _ xk; have t2 := cell_of_row _ _ 2 _ _ _ xk; have t3 := cell_of_row _ _ 3 _ _ _ xk; have t4 := cell_of_row _ _ 4 _ _ _ xk; have t5 := cell_of_row _ _ 5 _ _ _ xk; have u1 := cell_of_row _ _ 1 _ _ _ xv; go_simp <;> first | with_reducible rfl | rfl)
            simp only [Act.put, List.setIfInBounds_toArray, List.set_cons_zero, List.set_cons_succ]
            refine take_on (i := 7) (v := ?_) rfl rfl (by kernel_rfl) (by kernel_rfl) (by kernel_rfl) (fun _ _ _ h => h) rfl ?_ hHeld ?_
            rotate_left
            · (intro wq hSq; have xk := hSq.1.trans k0; have xv := hSq.2.trans kv; have t0 := cell_of_row _ _ 0 _ _ _ xk; have t1 := cell_of_row _ _ 1 _ _ _ xk; have t2 := cell_of_row _ _ 2 _ _ _ xk; have t3 := cell_of_row _ _ 3 _ _ _ xk; have t4 := cell_of_row _ _ 4 _ _ _ xk; have t5 := cell_of_row _ _ 5 _ _ _ xk; have u1 := cell_of_row _ _ 1 _ _ _ xv; go_simp <;> first | with_reducible rfl | rfl)
            simp only [Act.put, List.setIfInBounds_toArray, List.set_cons_zero, List.set_cons_succ]
            refine take_on (i := 8) (v := ?_) rfl rfl (by kernel_rfl) (by kernel_rfl) (by kernel_rfl) (fun _ _ _ h => h) rfl ?_ hHeld ?_
            rotate_left
            · (intro wq hSq; have xk := hSq.1.trans k0; have xv := hSq.2.trans kv; have t0 := cell_of_row _ _ 0 _ _ _ xk; have t1 := cell_of_row _ _ 1 _ _ _ xk; have t2 := cell_of_row _ _ 2 _ _ _ xk; have t3 := cell_of_row _ _ 3 _ _ _ xk; have t4 := cell_of_row _ _ 4 _ _ _ xk; have t5 := cell_of_row _ _ 5 _ _ _ xk; have u1 := cell_of_row _ _ 1 _ _ _ xv; go_simp <;> first | with_reducible rfl | rfl)
            simp only [Act.put, List.setIfInBounds_toArray, List.set_cons_zero, List.set_cons_succ]
            refine take_on (i := 9) (v := ?_) rfl rfl (by kernel_rfl) (by kernel_rfl) (by kernel_rfl) (fun _ _ _ h => h) rfl ?_ hHeld ?_
            rotate_left
            · (intro wq hSq; have xk := hSq.1.trans k0; have xv := hSq.2.trans kv; have t0 := cell_of_row _ _ 0 _ _ _ xk; have t1 := cell_of_row _ _ 1 _ _ _ xk; have t2 := cell_of_row _ _ 2 _ _ _ xk; have t3 := cell_of_row _ _ 3 _ _ _ xk; have t4 := cell_of_row _ _ 4 _ _ _ xk; have t5 := cell_of_row _ _ 5 _ _ _ xk; have u1 := cell_of_row _ _ 1 _ _ _ xv; go_simp <;> first | with_reducible rfl | rfl)
            simp only [Act.put, List.setIfInBounds_toArray, List.set_cons_zero, List.set_cons_succ]
            refine take_on (i := 10) (v := ?_) rfl rfl (by kernel_rfl) (by kernel_rfl) (by kernel_rfl) (fun _ _ _ h => h) rfl ?_ hHeld ?_
            rotate_left
            · (intro wq hSq; have xk := hSq.1.trans k0; have xv := hSq.2.trans kv; have t0 := cell_of_row _ _ 0 _ _ _ xk; have t1 := cell_of_row _ _ 1 _ _ _ xk; have t2 := cell_of_row _ _ 2 _ _ _ xk; have t3 := cell_of_row _ _ 3 _ _ _ xk; have t4 := cell_of_row _ _ 4 _ _ _ xk; have t5 := cell_of_row _ _ 5 _ _ _ xk; have u1 := cell_of_row _ _ 1 _ _ _ xv; go_simp <;> first | with_reducible rfl | rfl)
            simp only [Act.put, List.setIfInBounds_toArray, List.set_cons_zero, List.set_cons_succ]
            refine take_on (i := 11) (v := ?_) rfl rfl (by kernel_rfl) (by kernel_rfl) (by kernel_rfl) (fun _ _ _ h => h) rfl ?_ hHeld ?_
            rotate_left
            · (intro wq hSq; have xk := hSq.1.trans k0; have xv := hSq.2.trans kv; have t0 := cell_of_row _ _ 0 _ _ _ xk; have t1 := cell_of_row _ _ 1 _ _ _ xk; have t2 := cell_of_row _ _ 2 _ _ _ xk; have t3 := cell_of_row _ _ 3 _ _ _ xk; have t4 := cell_of_row _ _ 4 _ _ _ xk; have t5 := cell_of_row _ _ 5 _ _ _ xk; have u1 := cell_of_row _ _ 1 _ _ _ xv; go_simp <;> first | with_reducible rfl | rfl)
            simp only [Act.put, List.setIfInBounds_toArray, List.set_cons_zero, List.set_cons_succ]
            refine take_on (i := 12) (v := ?_) rfl rfl (by kernel_rfl) (by kernel_rfl) (by kernel_rfl) (fun _ _ _ h => h) rfl ?_ hHeld ?_
            rotate_left
            · (intro wq hSq; have xk := hSq.1.trans k0; have xv := hSq.2.trans kv; have t0 := cell_of_row _ _ 0 _ _ _ xk; have t1 := cell_of_row _ _ 1 _ _ _ xk; have t2 := cell_of_row _ _ 2 _ _ _ xk; have t3 := cell_of_row _ _ 3 _ _ _ xk; have t4 := cell_of_row _ _ 4 _ _ _ xk; have t5 := cell_of_row _ _ 5 _ _ _ xk; have u1 := cell_of_row _ _ 1 _ _ _ xv; go_simp <;> first | with_reducible rfl | rfl)
            simp only [Act.put, List.setIfInBounds_toArray, List.set_cons_zero, List.set_cons_succ]
            refine take_on (i := 13) (v := ?_) rfl rfl (by kernel_rfl) (by kernel_rfl) (by kernel_rfl) (fun _ _ _ h => h) rfl ?_ hHeld ?_
            rotate_left
            · (intro wq hSq; have xk := hSq.1.trans k0; have xv := hSq.2.trans kv; have t0 := cell_of_row _ _ 0 _ _ _ xk; have t1 := cell_of_row _ _ 1 _ _ _ xk; have t2 := cell_of_row _ _ 2 _ _ _ xk; have t3 := cell_of_row _ _ 3 _ _ _ xk; have t4 := cell_of_row _ _ 4 _ _ _ xk; have t5 := cell_of_row _ _ 5 _ _ _ xk; have u1 := cell_of_row _ _ 1 _ _ _ xv; go_simp <;> first | with_reducible rfl | rfl)
            simp only [Act.put, List.setIfInBounds_toArray, List.set_cons_zero, List.set_cons_succ]
            refine take_on (i := 14) (v := ?_) rfl rfl (by kernel_rfl) (by kernel_rfl) (by kernel_rfl) (fun _ _ _ h => h) rfl ?_ hHeld ?_
            rotate_left
            · (intro wq hSq; have xk := hSq.1.trans k0; have xv := hSq.2.trans kv; have t0 := cell_of_row _ _ 0 _ _ _ xk; have t1 := cell_of_row _ _ 1 _ _ _ xk; have t2 := cell_of_row _ _ 2 _ _ _ xk; have t3 := cell_of_row _ _ 3 _ _ _ xk; have t4 := cell_of_row _ _ 4 _ _ _ xk; have t5 := cell_of_row _ _ 5 _ _ _ xk; have u1 := cell_of_row _ _ 1 _ _ _ xv; go_simp <;> first | with_reducible rfl | rfl)
            simp only [Act.put, List.setIfInBounds_toArray, List.set_cons_zero, List.set_cons_succ]
            refine take_on (i := 15) (v := ?_) rfl rfl (by kernel_rfl) (by kernel_rfl) (by kernel_rfl) (fun _ _ _ h => h) rfl ?_ hHeld ?_
            rotate_left
            · (intro wq hSq; have xk := hSq.1.trans k0; have xv := hSq.2.trans kv; have t0 := cell_of_row _ _ 0 _ _ _ xk; have t1 := cell_of_row _ _ 1 _ _ _ xk; have t2 := cell_of_row _ _ 2 _ _ _ xk; have t3 := cell_of_row _ _ 3 _ _ _ xk; have t4 := cell_of_row _ _ 4 _ _ _ xk; have t5 := cell_of_row _ _ 5 _ _ _ xk; have u1 := cell_of_row _ _ 1 _ _ _ xv; go_simp <;> first | with_reducible rfl | rfl)
            simp only [Act.put, List.setIfInBounds_toArray, List.set_cons_zero, List.set_cons_succ]
            refine take_on (i := 16) (v := ?_) rfl rfl (by kernel_rfl) (by kernel_rfl) (by kernel_rfl) (fun _ _ _ h => h) rfl ?_ hHeld ?_
            rotate_left
            · (intro wq hSq; have xk := hSq.1.trans k0; have xv := hSq.2.trans kv; have t0 := cell_of_row _ _ 0 _ _ _ xk; have t1 := cell_of_row _ _ 1 _ _ _ xk; have t2 := cell_of_row _ _ 2 _ _ _ xk; have t3 := cell_of_row _ _ 3 _ _ _ xk; have t4 := cell_of_row _ _ 4 _ _ _ xk; have t5 := cell_of_row _ _ 5 _ _ _ xk; have u1 := cell_of_row _ _ 1 _ _ _ xv; go_simp <;> first | with_reducible rfl | rfl)
            simp only [Act.put, List.setIfInBounds_toArray, List.set_cons_zero, List.set_cons_succ]
            refine take_on (i := 17) (v := ?_) rfl rfl (by kernel_rfl) (by kernel_rfl) (by kernel_rfl) (fun _ _ _ h => h) rfl ?_ hHeld ?_
            rotate_left
            · (intro wq hSq; have xk := hSq.1.trans k0; have xv := hSq.2.trans kv; have t0 := cell_of_row _ _ 0 _ _ _ xk; have t1 := cell_of_row _ _ 1 _ _ _ xk; have t2 := cell_of_row _ _ 2 _ _ _ xk; have t3 := cell_of_row _ _ 3 _ _ _ xk; have t4 := cell_of_row _ _ 4 _ _ _ xk; have t5 := cell_of_row _ _ 5 _ _ _ xk; have u1 := cell_of_row _ _ 1 _ _ _ xv; go_simp <;> first | with_reducible rfl | rfl)
            simp only [Act.put, List.setIfInBounds_toArray, List.set_cons_zero, List.set_cons_succ]
            refine take_on (i := 18) (v := ?_) rfl rfl (by kernel_rfl) (by kernel_rfl) (by kernel_rfl) (fun _ _ _ h => h) rfl ?_ hHeld ?_
            rotate_left
            · (intro wq hSq; have xk := hSq.1.trans k0; have xv := hSq.2.trans kv; have t0 := cell_of_row _ _ 0 _ _ _ xk; have t1 := cell_of_row _ _ 1 _ _ _ xk; have t2 := cell_of_row _ _ 2 _ _ _ xk; have t3 := cell_of_row _ _ 3 _ _ _ xk; have t4 := cell_of_row _ _ 4 _ _ _ xk; have t5 := cell_of_row _ _ 5 _ _ _ xk; have u1 := cell_of_row _ _ 1 _ _ _ xv; go_simp <;> first | with_reducible rfl | rfl)
            simp only [Act.put, List.setIfInBounds_toArray, List.set_cons_zero, List.set_cons_succ]
            refine take_on (i := 20) (v := ?_) rfl rfl (by kernel_rfl) (by kernel_rfl) (by kernel_rfl) (fun _ _ _ h => h) rfl ?_ hHeld ?_
            rotate_left
            · (intro wq hSq; have xk := hSq.1.trans k0; have xv := hSq.2.trans kv; have t0 := cell_of_row _ _ 0 _ _ _ xk; have t1 := cell_of_row _ _ 1 _ _ _ xk; have t2 := cell_of_row _ _ 2 _ _ _ xk; have t3 := cell_of_row _ _ 3 _ _ _ xk; have t4 := cell_of_row _ _ 4 _ _ _ xk; have t5 := cell_of_row _ _ 5 _ _ _ xk; have u1 := cell_of_row _ _ 1 _ _ _ xv; go_simp <;> first | with_reducible rfl | rfl)
            simp only [Act.put, List.setIfInBounds_toArray, List.set_cons_zero, List.set_cons_succ]
            refine take_on (i := 21) (v := ?_) rfl rfl (by kernel_rfl) (by kernel_rfl) (by kernel_rfl) (fun _ _ _ h => h) rfl ?_ hHeld ?_
            rotate_left
            · (intro wq hSq; have xk := hSq.1.trans k0; have xv := hSq.2.trans kv; have t0 := cell_of_row _ _ 0 _ _ _ xk; have t1 := cell_of_row _ _ 1 _ _ _ xk; have t2 := cell_of_row _ _ 2 _ _ _ xk; have t3 := cell_of_row _ _ 3 _ _ _ xk; have t4 := cell_of_row _ _ 4 _ _ _ xk; have t5 := cell_of_row _ _ 5 _ _ _ xk; have u1 := cell_of_row _ _ 1 _ _ _ xv; go_simp <;> first | with_reducible rfl | rfl)
            simp only [Act.put, List.setIfInBounds_toArray, List.set_cons_zero, List.set_cons_succ]
            refine take_one (i := 19) rfl (by kernel_rfl) (fun K hK => ?_)
            go_simp
            (refine hcl.mono ?_; rintro e z1 ⟨v1, rfl, hy1, hb1, hcl2⟩; clear hcl)
            try go_wp2_with fail
            refine hK.out _ _ ?_ (fun hHeld => ?_)
            · exact ⟨hy1, (hb1.block _ hvl).trans hvW⟩
            clear hK K
            try simp only [Act.put, List.setIfInBounds_toArray, List.set_cons_zero, List.set_cons_succ]
            refine take_one (i := 22) rfl (by kernel_rfl) (fun K hK => ?_)
            go_simp
            (refine hcl2.mono ?_; rintro e z2 ⟨v2, rfl, hv1, hv2, hX2, hy2⟩; replace hal := hal z2 v1 v2 hv1 hv2; have hy3 := hX2.bel; clear hv1 hv2 hcl2)
            try go_wp2_with fail
            refine hK.out _ _ ?_ (fun hHeld => ?_)
            · exact ⟨hy2, (hy3.block _ hvl).trans hvW⟩
            clear hK K
            try simp only [Act.put, List.setIfInBounds_toArray, List.set_cons_zero, List.set_cons_succ]
            refine take_one (i := 23) rfl (by kernel_rfl) (fun K hK => ?_)
            go_simp
            (refine hal.mono ?_; rintro e z3 ⟨rfl, hz3⟩; have hX3 := hX2.below hz3; clear hal)
            try go_wp2_with fail
            refine hK.out _ _ ?_ (fun hHeld => ?_)
            · exact ⟨(hz3.block _ hX2.lt).trans hy2, (hX3.bel.block _ hvl).trans hvW⟩
            clear hK K
            try simp only [Act.put, List.setIfInBounds_toArray, List.set_cons_zero, List.set_cons_succ]
            refine take_on (i := 24) (v := ?_) rfl rfl (by kernel_rfl) (by kernel_rfl) (by kernel_rfl) (fun _ _ _ h => h) rfl ?_ hHeld ?_
            rotate_left
            · (intro wq hSq; have xk := hSq.1.trans k0; have xv := hSq.2.trans kv; have t0 := cell_of_row _ _ 0 _ _ _ xk; have t1 := cell_of_row _ _ 1 _ _ _ xk; have t2 := cell_of_row _ _ 2 _ _ _ xk; have t3 := cell_of_row _ _ 3 _ _ _ xk; have t4 := cell_of_row _ _ 4 _ _ _ xk; have t5 := cell_of_row _ _ 5 _ _ _ xk; have u1 := cell_of_row _ _ 1 _ _ _ xv; go_simp <;> first | with_reducible rfl | rfl)
            simp only [Act.put, List.setIfInBounds_toArray, List.set_cons_zero, List.set_cons_succ]
            refine take_on (i := 25) (v := ?_) rfl rfl (by kernel_rfl) (by kernel_rfl) (by kernel_rfl) (fun _ _ _ h => h) rfl ?_ hHeld ?_
            rotate_left
            · (intro wq hSq; have xk := hSq.1.trans k0; have xv := hSq.2.trans kv; have t0 := cell_of_row _ _ 0 _ _ _ xk; have t1 := cell_of_row _ _ 1 _ _ _ xk; have t2 := cell_of_row _ _ 2 _ _ _ xk; have t3 := cell_of_row _ _ 3 _ _ _ xk; have t4 := cell_of_row _ _ 4 _ _ _ xk; have t5 := cell_of_row _ _ 5 _ _ _ xk; have u1 := cell_of_row _ _ 1 _ _ _ xv; go_simp <;> first | with_reducible rfl | rfl)
            simp only [Act.put, List.setIfInBounds_toArray, List.set_cons_zero, List.set_cons_succ]
            refine wpAnyH_done (by kernel_rfl) ?_ _
            have HY := hide_it hX3.duo
            clear hX2 hX3 hz3 hy1 hy2 hy3
            go_wp2
            go_roundw
            case rel => exact ⟨k + 1, by omega, by go_num, HY⟩
            case measure => simp [intOf]; omega
          · skip
            have q1 : (x.k == 1) = false := by simpa using hk1
            have q3 : (x.k == 3) = false := by simpa using hk3
            have HY := hide_it (hX.below ((Below.refl _ _).drew)).duo
            have hl0 : wr.heap.size < W.heap.size := by omega
            clear c0 c1 c2 c3 c4 c5 hrow hx hbW heach hX HD HC HC2
            go_wp2_with fail
            rw [← hW]
            clear hW d0 d1 d2 d3 d4 d5
            refine wp_region_held_drew (S := (fun w' => w'.heap[wr.heap.size]? = W.heap[wr.heap.size]? ∧ w'.heap[w.heap.size]? = W.heap[w.heap.size]?)) (by kernel_rfl) ?_ (fun hHeld => ?_)
            · exact ⟨rfl, rfl⟩
            refine take_on (i := 0) (v := ?_) rfl rfl (by kernel_rfl) (by kernel_rfl) (by kernel_rfl) (fun _ _ _ h => h) rfl ?_ hHeld ?_
            rotate_left
            · (intro wq hSq; have xk := hSq.1.trans k0; have xv := hSq.2.trans kv; have t0 := cell_of_row _ _ 0 _ _ _ xk; have t1 := cell_of_row _ _ 1 _ _ _ xk; have t2 := cell_of_row _ _ 2 _ _ _ xk; have t3 := cell_of_row _ _ 3 _ _ _ xk; have t4 := cell_of_row _ _ 4 _ _ _ xk; have t5 := cell_of_row _ _ 5 _ _ _ xk; have u1 := cell_of_row _ _ 1 _ _ _ xv; go_simp <;> first | with_reducible rfl | rfl)
            simp only [Act.put, List.setIfInBounds_toArray, List.set_cons_zero, List.set_cons_succ]
            refine take_on (i := 1) (v := ?_) rfl rfl (by kernel_rfl) (by kernel_rfl) (by kernel_rfl) (fun _ _ _ h => h) rfl ?_ hHeld ?_
            rotate_left
            · (intro wq hSq; have xk := hSq.1.trans k0; have xv := hSq.2.trans kv; have t0 := cell_of_row _ _ 0 _ _ _ xk; have t1 := cell_of_row _ _ 1 _ _ _ xk; have t2 := cell_of_row _ _ 2 _ _ _ xk; have t3 := cell_of_row _ _ 3 _ _ _ xk; have t4 := cell_of_row _ _ 4 _ _ _ xk; have t5 := cell_of_row _ _ 5 _ _ _ xk; have u1 := cell_of_row _ _ 1 _ _ _ xv; go_simp <;> first | with_reducible rfl | rfl)
            simp only [Act.put, List.setIfInBounds_toArray, List.set_cons_zero, List.set_cons_succ]
            refine take_on (i := 2) (v := ?_) rfl rfl (by kernel_rfl) (by kernel_rfl) (by kernel_rfl) (fun _ _ _ h => h) rfl ?_ hHeld ?_
            rotate_left
            · (intro wq hSq; have xk := hSq.1.trans k0; have xv := hSq.2.trans kv; have t0 := cell_of_row _ _ 0 _ _ _ xk; have t1 := cell_of_row _ _ 1 _ _ _ xk; have t2 := cell_of_row _ _ 2 _ _ _ xk; have t3 := cell_of_row _ _ 3 _ _ _ xk; have t4 := cell_of_row _ _ 4 _ _ _ xk; have t5 := cell_of_row _ _ 5 _ _ _ xk; have u1 := cell_of_row _ _ 1 _ _ _ xv; go_simp <;> first | with_reducible rfl | rfl)
            simp only [Act.put, List.setIfInBounds_toArray, List.set_cons_zero, List.set_cons_succ]
            refine take_on (i := 3) (v := ?_) rfl rfl (by kernel_rfl) (by kernel_rfl) (by kernel_rfl) (fun _ _ _ h => h) rfl ?_ hHeld ?_
            rotate_left
            · (intro wq hSq; have xk := hSq.1.trans k0; have xv := hSq.2.trans kv; have t0 := cell_of_row _ _ 0 _ _ _ xk; have t1 := cell_of_row _ _ 1 _ _ _ xk; have t2 := cell_of_row _ _ 2 _ _ _ xk; have t3 := cell_of_row _ _ 3 _ _ _ xk; have t4 := cell_of_row _ _ 4 _ _ _ xk; have t5 := cell_of_row _ _ 5 _ _ _ xk; have u1 := cell_of_row _ _ 1 _ _ _ xv; go_simp <;> first | with_reducible rfl | rfl)
            simp only [Act.put, List.setIfInBounds_toArray, List.set_cons_zero, List.set_cons_succ]
            refine take_on (i := 4) (v := ?_) rfl rfl (by kernel_rfl) (by kernel_rfl) (by kernel_rfl) (fun _ _ _ h => h) rfl ?_ hHeld ?_
            rotate_left
            · (intro wq hSq; have xk := hSq.1.trans k0; have xv := hSq.2.trans kv; have t0 := cell_of_row _ _ 0 _ _ _ xk; have t1 := cell_of_row _ _ 1 _ _ _ xk; have t2 := cell_of_row _ _ 2 _ _ _ xk; have t3 := cell_of_row _ _ 3 _ _ _ xk; have t4 := cell_of_row _ _ 4 _ _ _ xk; have t5 := cell_of_row _ _ 5 _ _ _ xk; have u1 := cell_of_row _ _ 1 _ _ _ xv; go_simp <;> first | with_reducible rfl | rfl)
            simp only [Act.put, List.setIfInBounds_toArray, List.set_cons_zero, List.set_cons_succ]
            refine take_on (i := 5) (v := ?_) rfl rfl (by kernel_rfl) (by kernel_rfl) (by kernel_rfl) (fun _ _ _ h => h) rfl ?_ hHeld ?_
            rotate_left
            · (intro wq hSq; have xk := hSq.1.trans k0; have xv := hSq.2.trans kv; have t0 := cell_of_row _ _ 0 _ _ _ xk; have t1 := cell_of_row _ _ 1 _ _ _ xk; have t2 := cell_of_row _ _ 2 _ _ _ xk; have t3 := cell_of_row _ _ 3 _ _ _ xk; have t4 := cell_of_row _ _ 4 _ _ _ xk; have t5 := cell_of_row _ _ 5 _ _ _ xk; have u1 := cell_of_row _ _ 1 _ _ _ xv; go_simp <;> first | with_reducible rfl | rfl)
            simp only [Act.put, List.setIfInBounds_toArray, List.set_cons_zero, List.set_cons_succ]
            refine take_on (i := 6) (v := ?_) rfl rfl (by kernel_rfl) (by kernel_rfl) (by kernel_rfl) (fun _ _ _ h => h) rfl ?_ hHeld ?_
            rotate_left
            · (intro wq hSq; have xk := hSq.1.trans k0; have xv := hSq.2.trans kv; have t0 := cell_of_row _ _ 0 _ _ _ xk; have t1 := cell_of_row _ _ 1 _ _ _ xk; have t2 := cell_of_row _ _ 2 _ _ _ xk; have t3 := cell_of_row _ _ 3 _ _ _ xk; have t4 := cell_of_row _ _ 4 _ _ _ xk; have t5 := cell_of_row _ _ 5 _ _ _ xk; have u1 := cell_of_row _ _ 1 _ _ _ xv; go_simp <;> first | with_reducible rfl | rfl)
            simp only [Act.put, List.setIfInBounds_toArray, List.set_cons_zero, List.set_cons_succ]
            refine take_on (i := 7) (v := ?_) rfl rfl (by kernel_rfl) (by kernel_rfl) (by kernel_rfl) (fun _ _ _ h => h) rfl ?_ hHeld ?_
            rotate_left
            · (intro wq hSq; have xk := hSq.1.trans k0; have xv := hSq.2.trans kv; have t0 := cell_of_row _ _ 0 _ _ _ xk; have t1 := cell_of_row _ _ 1 _ _ _ xk; have t2 := cell_of_row _ _ 2 _ _ _ xk; have t3 := cell_of_row _ _ 3 _ _ _ xk; have t4 := cell_of_row _ _ 4 _ _ _ xk; have t5 := cell_of_row _ _ 5 _ _ _ xk; have u1 := cell_of_row _ _ 1 _ _ _ xv; go_simp <;> first | with_reducible rfl | rfl)
            simp only [Act.put, List.setIfInBounds_toArray, List.set_cons_zero, List.set_cons_succ]
            refine take_on (i := 8) (v := ?_) rfl rfl (by kernel_rfl) (by kernel_rfl) (by kernel_rfl) (fun _ _ _ h => h) rfl ?_ hHeld ?_
            rotate_left
            · (intro wq hSq; have xk := hSq.1.trans k0; have xv := hSq.2.trans kv; have t0 := cell_of_row _ _ 0 _ _ _ xk; have t1 := cell_of_row _ _ 1 _ _ _ xk; have t2 := cell_of_row _ _ 2 _ _ _ xk; have t3 := cell_of_row _ _ 3 _ _ _ xk; have t4 := cell_of_row _ _ 4 _ _ _ xk; have t5 := cell_of_row _ _ 5 _ _ _ xk; have u1 := cell_of_row _ _ 1 _ _ _ xv; go_simp <;> first | with_reducible rfl | rfl)
            simp only [Act.put, List.setIfInBounds_toArray, List.set_cons_zero, List.set_cons_succ]
            refine take_on (i := 9) (v := ?_) rfl rfl (by kernel_rfl) (by kernel_rfl) (by kernel_rfl) (fun _ _ _ h => h) rfl ?_ hHeld ?_
            rotate_left
            · (intro wq hSq; have xk := hSq.1.trans k0; have xv := hSq.2.trans kv; have t0 := cell_of_row _ _ 0 _ _ _ xk; have t1 := cell_of_row _ _ 1 _ _ _ xk; have t2 := cell_of_row _ _ 2 _ _ _ xk; have t3 := cell_of_row _ _ 3 _ _ _ xk; have t4 := cell_of_row _ _ 4 _ _ _ xk; have t5 := cell_of_row _ _ 5 _ _ _ xk; have u1 := cell_of_row _ _ 1 _ _ _ xv; go_simp <;> first | with_reducible rfl | rfl)
            simp only [Act.put, List.setIfInBounds_toArray, List.set_cons_zero, List.set_cons_succ]
            refine take_on (i := 10) (v := ?_) rfl rfl (by kernel_rfl) (by kernel_rfl) (by kernel_rfl) (fun _ _ _ h => h) rfl ?_ hHeld ?_
            rotate_left
            · (intro wq hSq; have xk := hSq.1.trans k0; have xv := hSq.2.trans kv; have t0 := cell_of_row _ _ 0 _ _ _ xk; have t1 := cell_of_row _ _ 1 _ _ _ xk; have t2 := cell_of_row _ _ 2 _ _ _ xk; have t3 := cell_of_row _ _ 3 _ _ _ xk; have t4 := cell_of_row _ _ 4 _ _ _ xk; have t5 := cell_of_row _ _ 5 _ _ _ xk; have u1 := cell_of_row _ _ 1 _ _ _ xv; go_simp <;> first | with_reducible rfl | rfl)
            simp only [Act.put, List.setIfInBounds_toArray, List.set_cons_zero, List.set_cons_succ]
            refine take_on (i := 11) (v := ?_) rfl rfl (by kernel_rfl) (by kernel_rfl) (by kernel_rfl) (fun _ _ _ h => h) rfl ?_ hHeld ?_
            rotate_left
            · (intro wq hSq; have xk := hSq.1.trans k0; have xv := hSq.2.trans kv; have t0 := cell_of_row _ _ 0 _ _ _ xk; have t1 := cell_of_row _ _ 1 _ _ _ xk; have t2 := cell_of_row _ _ 2 _ _ _ xk; have t3 := cell_of_row _ _ 3 _ _ _ xk; have t4 := cell_of_row _ _ 4 _ _ _ xk; have t5 := cell_of_row _ _ 5 _ _ _ xk; have u1 := cell_of_row _ _ 1 _ _ _ xv; go_simp <;> first | with_reducible rfl | rfl)
            simp only [Act.put, List.setIfInBounds_toArray, List.set_cons_zero, List.set_cons_succ]
            refine take_on (i := 12) (v := ?_) rfl rfl (by kernel_rfl) (by kernel_rfl) (by kernel_rfl) (fun _ _ _ h => h) rfl ?_ hHeld ?_
            rotate_left
            · (intro wq hSq; have xk := hSq.1.trans k0; have xv := hSq.2.trans kv; have t0 := cell_of_row _ _ 0 _ _ _ xk; have t1 := cell_of_row _ _ 1 _ _ _ xk; have t2 := cell_of_row _ _ 2 _ _ _ xk; have t3 := cell_of_row _ _ 3 _ _ _ xk; have t4 := cell_of_row _ _ 4 _ _ _ xk; have t5 := cell_of_row _ _ 5 _ _ _ xk; have u1 := cell_of_row _ _ 1 _ _ _ xv; go_simp <;> first | with_reducible rfl | rfl)
            simp only [Act.put, List.setIfInBounds_toArray, List.set_cons_zero, List.set_cons_succ]
            refine take_on (i := 13) (v := ?_) rfl rfl (by kernel_rfl) (by kernel_rfl) (by kernel_rfl) (fun _ _ _ h => h) rfl ?_ hHeld ?_
            rotate_left
            · (intro wq hSq; have xk := hSq.1.trans k0; have xv := hSq.2.trans kv; have t0 := cell_of_row _ _ 0 _ _ _ xk; have t1 := cell_of_row _ _ 1 _ _ _ xk; have t2 := cell_of_row _ _ 2 _ _ _ xk; have t3 := cell_of_row _ _ 3 _ _ _ xk; have t4 := cell_of_row _ _ 4 _ _ _ xk; have t5 := cell_of_row _ _ 5 _ _ _ xk; have u1 := cell_of_row _ _ 1 _ _ _ xv; go_simp <;> first | with_reducible rfl | rfl)
            simp only [Act.put, List.setIfInBounds_toArray, List.set_cons_zero, List.set_cons_succ]
            refine take_on (i := 14) (v := ?_) rfl rfl (by kernel_rfl) (by kernel_rfl) (by kernel_rfl) (fun _ _ _ h => h) rfl ?_ hHeld ?_
            rotate_left
            · (intro wq hSq; have xk := hSq.1.trans k0; have xv := hSq.2.trans kv; have t0 := cell_of_row _ _ 0 _ _ _ xk; have t1 := cell_of_row _ _ 1 _ _ _ xk; have t2 := cell_of_row _ _ 2 _ _ _ xk; have t3 := cell_of_row _ _ 3 _ _ _ xk; have t4 := cell_of_row _ _ 4 _ _ _ xk; have t5 := cell_of_row _ _ 5 _ _ _ xk; have u1 := cell_of_row _ _ 1 _ _ _ xv; go_simp <;> first | with_reducible rfl | rfl)
            simp only [Act.put, List.setIfInBounds_toArray, List.set_cons_zero, List.set_cons_succ]
            refine take_on (i := 15) (v := ?_) rfl rfl (by kernel_rfl) (by kernel_rfl) (by kernel_rfl) (fun _ _ _ h => h) rfl ?_ hHeld ?_
            rotate_left
            · (intro wq hSq; have xk := hSq.1.trans k0; have xv := hSq.2.trans kv; have t0 := cell_of_row _ _ 0 _ _ _ xk; have t1 := cell_of_row _ _ 1 _ _ _ xk; have t2 := cell_of_row _ _ 2 _ _ _ xk; have t3 := cell_of_row _ _ 3 _ _ _ xk; have t4 := cell_of_row _ _ 4 _ _ _ xk; have t5 := cell_of_row _ _ 5 _ _ _ xk; have u1 := cell_of_row _ _ 1 _ _ _ xv; go_simp <;> first | with_reducible rfl | rfl)
            simp only [Act.put, List.setIfInBounds_toArray, List.set_cons_zero, List.set_cons_succ]
            refine take_on (i := 16) (v := ?_) rfl rfl (by kernel_rfl) (by kernel_rfl) (by kernel_rfl) (fun _ _ _ h => h) rfl ?_ hHeld ?_
            rotate_left
            · (intro wq hSq; have xk := hSq.1.trans k0; have xv := hSq.2.trans kv; have t0 := cell_of_row _ _ 0 _ _ _ xk; have t1 := cell_of_row _ _ 1 _ _ _ xk; have t2 := cell_of_row _ _ 2 _ _ _ xk; have t3 := cell_of_row _ _ 3 _ _ _ xk; have t4 := cell_of_row _ _ 4 _ _ _ xk; have t5 := cell_of_row _ _ 5 _ _ _ xk; have u1 := cell_of_row _ _ 1 _ _ _ xv; go_simp <;> first | with_reducible rfl | rfl)
            simp only [Act.put, List.setIfInBounds_toArray, List.set_cons_zero, List.set_cons_succ]
            refine take_off (i := 17) rfl rfl (by kernel_rfl) (by kernel_rfl) (by kernel_rfl) (fun _ _ _ h => h) rfl hHeld ?_
            simp only [Act.put, List.setIfInBounds_toArray, List.set_cons_zero, List.set_cons_succ]
            refine take_off (i := 18) rfl rfl (by kernel_rfl) (by kernel_rfl) (by kernel_rfl) (fun _ _ _ h => h) rfl hHeld ?_
            simp only [Act.put, List.setIfInBounds_toArray, List.set_cons_zero, List.set_cons_succ]
            refine take_off (i := 19) rfl rfl (by kernel_rfl) (by kernel_rfl) (by kernel_rfl) (fun _ _ _ h => h) rfl hHeld ?_
            simp only [Act.put, List.setIfInBounds_toArray, List.set_cons_zero, List.set_cons_succ]
            refine take_off (i := 20) rfl rfl (by kernel_rfl) (by kernel_rfl) (by kernel_rfl) (fun _ _ _ h => h) rfl hHeld ?_
            simp only [Act.put, List.setIfInBounds_toArray, List.set_cons_zero, List.set_cons_succ]
            refine take_off (i := 21) rfl rfl (by kernel_rfl) (by kernel_rfl) (by kernel_rfl) (fun _ _ _ h => h) rfl hHeld ?_
            simp only [Act.put, List.setIfInBounds_toArray, List.set_cons_zero, List.set_cons_succ]
            refine take_off (i := 22) rfl rfl (by kernel_rfl) (by kernel_rfl) (by kernel_rfl) (fun _ _ _ h => h) rfl hHeld ?_
            simp only [Act.put, List.setIfInBounds_toArray, List.set_cons_zero, List.set_cons_succ]
            refine take_off (i := 23) rfl rfl (by kernel_rfl) (by kernel_rfl) (by kernel_rfl) (fun _ _ _ h => h) rfl hHeld ?_
            simp only [Act.put, List.setIfInBounds_toArray, List.set_cons_zero, List.set_cons_succ]
            refine take_off (i := 24) rfl rfl (by kernel_rfl) (by kernel_rfl) (by kernel_rfl) (fun _ _ _ h => h) rfl hHeld ?_
            simp only [Act.put, List.setIfInBounds_toArray, List.set_cons_zero, List.set_cons_succ]
            refine take_on (i := 25) (v := ?_) rfl rfl (by kernel_rfl) (by kernel_rfl) (by kernel_rfl) (fun _ _ _ h => h) rfl ?_ hHeld ?_
            rotate_left
            · (intro wq hSq; have xk := hSq.1.trans k0; have xv := hSq.2.trans kv; have t0 := cell_of_row _ _ 0 _ _ _ xk; have t1 := cell_of_row _ _ 1 _ _ _ xk; have t2 := cell_of_row _ _ 2 _ _ _ xk; have t3 := cell_of_row _ _ 3 _ _ _ xk; have t4 := cell_of_row _ _ 4 _ _ _ xk; have t5 := cell_of_row _ _ 5 _ _ _ xk; have u1 := cell_of_row _ _ 1 _ _ _ xv; go_simp <;> first | with_reducible rfl | rfl)
            simp only [Act.put, List.setIfInBounds_toArray, List.set_cons_zero, List.set_cons_succ]
            refine wpAnyH_done (by kernel_rfl) ?_ _
            go_wp2
            go_roundw
            case rel => exact ⟨k + 1, by omega, by go_num, HY⟩
            case measure => simp [intOf]; omega
      · have hd1 : decide (x.stamp < v.stamp) = false := decide_eq_false hst
        skip
        have HY := hide_it (hX.below ((Below.refl _ _).drew)).duo
        have hl0 : wr.heap.size < W.heap.size := by omega
        clear c0 c1 c2 c3 c4 c5 hrow hx hbW heach hX HD HC HC2
        go_wp2_with fail
        rw [← hW]
        clear hW d0 d1 d2 d3 d4 d5
        refine wp_region_held_drew (S := (fun w' => w'.heap[wr.heap.size]? = W.heap[wr.heap.size]? ∧ w'.heap[w.heap.size]? = W.heap[w.heap.size]?)) (by kernel_rfl) ?_ (fun hHeld => ?_)
        · exact ⟨rfl, rfl⟩
        refine take_on (i := 0) (v := ?_) rfl rfl (by kernel_rfl) (by kernel_rfl) (by kernel_rfl) (fun _ _ _ h => h) rfl ?_ hHeld ?_
        rotate_left
        · (intro wq hSq; have xk := hSq.1.trans k0; have xv := hSq.2.trans kv; have t0 := cell_of_row _ _ 0 _ _ _ xk; have t1 := cell_of_row _ _ 1 _ _ _ xk; have t2 := cell_of_row _ _ 2 _ _ _ xk; have t3 := cell_of_row _ _ 3 _ _ _ xk; have t4 := cell_of_row _ _ 4 _ _ _ xk; have t5 := cell_of_row _ _ 5 _ _ _ xk; have u1 := cell_of_row _ _ 1 _ _ _ xv; go_simp <;> first | with_reducible rfl | rfl)
        simp only [Act.put, List.setIfInBounds_toArray, List.set_cons_zero, List.set_cons_succ]
        refine take_on (i := 1) (v := ?_) rfl rfl (by kernel_rfl) (by kernel_rfl) (by kernel_rfl) (fun _ _ _ h => h) rfl ?_ hHeld ?_
        rotate_left
        · (intro wq hSq; have xk := hSq.1.trans k0; have xv := hSq.2.trans kv; have t0 := cell_of_row _ _ 0 _ _ _ xk; have t1 := cell_of_row _ _ 1 _ _ _ xk; have t2 := cell_of_row _ _ 2 _ _ _ xk; have t3 := cell_of_row _ _ 3 _ _ _ xk; have t4 := cell_of_row _ _ 4 _ _ _ xk; have t5 := cell_of_row _ _ 5 _ _ _ xk; have u1 := cell_of_row _ _ 1 _ _ _ xv; go_simp <;> first | with_reducible rfl | rfl)
        simp only [Act.put, List.setIfInBounds_toArray, List.set_cons_zero, List.set_cons_succ]
        refine take_on (i := 2) (v := ?_) rfl rfl (by kernel_rfl) (by kernel_rfl) (by kernel_rfl) (fun _ _ _ h => h) rfl ?_ hHeld ?_
        rotate_left
        · (intro wq hSq; have xk := hSq.1.trans k0; have xv := hSq.2.trans kv; have t0 := cell_of_row _ _ 0 _ _ _ xk; have t1 := cell_of_row _ _ 1 _ _ _ xk; have t2 := cell_of_row _ _ 2 _ _ _ xk; have t3 := cell_of_row _ _ 3 _ _ _ xk; have t4 := cell_of_row _ _ 4 _ _ _ xk; have t5 := cell_of_row _ _ 5 _ _ _ xk; have u1 := cell_of_row _ _ 1 _ _ _ xv; go_simp <;> first | with_reducible rfl | rfl)
        simp only [Act.put, List.setIfInBounds_toArray, List.set_cons_zero, List.set_cons_succ]
        refine take_on (i := 3) (v := ?_) rfl rfl (by kernel_rfl) (by kernel_rfl) (by kernel_rfl) (fun _ _ _ h => h) rfl ?_ hHeld ?_
        rotate_left
        · (intro wq hSq; have xk := hSq.1.trans k0; have xv := hSq.2.trans kv; have t0 := cell_of_row _ _ 0 _ _ _ xk; have t1 := cell_of_row _ _ 1 _ _ _ xk; have t2 := cell_of_row _ _ 2 _ _ _ xk; have t3 := cell_of_row _ _ 3 _ _ _ xk; have t4 := cell_of_row _ _ 4 _ _ _ xk; have t5 := cell_of_row _ _ 5 _ _ _ xk; have u1 := cell_of_row _ _ 1 _ _ _ xv; go_simp <;> first | with_reducible rfl | rfl)
        simp only [Act.put, List.setIfInBounds_toArray, List.set_cons_zero, List.set_cons_succ]
        refine take_on (i := 4) (v := ?_) rfl rfl (by kernel_rfl) (by kernel_rfl) (by kernel_rfl) (fun _ _ _ h => h) rfl ?_ hHeld ?_
        rotate_left
        · (intro wq hSq; have xk := hSq.1.trans k0; have xv := hSq.2.trans kv; have t0 := cell_of_row _ _ 0 _ _ _ xk; have t1 := cell_of_row _ _ 1 _ _ _ xk; have t2 := cell_of_row _ _ 2 _ _ _ xk; have t3 := cell_of_row _ _ 3 _ _ _ xk; have t4 := cell_of_row _ _ 4 _ _ _ xk; have t5 := cell_of_row _ _ 5 _ _ _ xk; have u1 := cell_of_row _ _ 1 _ _ _ xv; go_simp <;> first | with_reducible rfl | rfl)
        simp only [Act.put, List.setIfInBounds_toArray, List.set_cons_zero, List.set_cons_succ]
        refine take_on (i := 5) (v := ?_) rfl rfl (by kernel_rfl) (by kernel_rfl) (by kernel_rfl) (fun _ _ _ h => h) rfl ?_ hHeld ?_
        rotate_left
        · (intro wq hSq; have xk := hSq.1.trans k0; have xv := hSq.2.trans kv; have t0 := cell_of_row _ _ 0 _ _ _ xk; have t1 := cell_of_row _ _ 1 _ _ _ xk; have t2 := cell_of_row _ _ 2 _ _ _ xk; have t3 := cell_of_row _ _ 3 _ _ _ xk; have t4 := cell_of_row _ _ 4 _ _ _ xk; have t5 := cell_of_row _ _ 5 _ _ _ xk; have u1 := cell_of_row _ _ 1 _ _ _ xv; go_simp <;> first | with_reducible rfl | rfl)
        simp only [Act.put, List.setIfInBounds_toArray, List.set_cons_zero, List.set_cons_succ]
        refine take_on (i := 6) (v := ?_) rfl rfl (by kernel_rfl) (by kernel_rfl) (by kernel_rfl) (fun _ _ _ h => h) rfl ?_ hHeld ?_
        rotate_left
        · (intro wq hSq; have xk := hSq.1.trans k0; have xv := hSq.2.trans kv; have t0 := cell_of_row _ _ 0 _ _ _ xk; have t1 := cell_of_row _ _ 1 _ _ _ xk; have t2 := cell_of_row _ _ 2 _ _ _ xk; have t3 := cell_of_row _ _ 3 _ _ _ xk; have t4 := cell_of_row _ _ 4 _ _ _ xk; have t5 := cell_of_row _ _ 5 _ _ _ xk; have u1 := cell_of_row _ _ 1 _ _ _ xv; go_simp <;> first | with_reducible rfl | rfl)
        simp only [Act.put, List.setIfInBounds_toArray, List.set_cons_zero, List.set_cons_succ]
        refine take_off (i := 7) rfl rfl (by kernel_rfl) (by kernel_rfl) (by kernel_rfl) (fun _ _ _ h => h) rfl hHeld ?_
        simp only [Act.put, List.setIfInBounds_toArray, List.set_cons_zero, List.set_cons_succ]
        refine take_off (i := 8) rfl rfl (by kernel_rfl) (by kernel_rfl) (by kernel_rfl) (fun _ _ _ h => h) rfl hHeld ?_
        simp only [Act.put, List.setIfInBounds_toArray, List.set_cons_zero, List.set_cons_succ]
        refine take_off (i := 9) rfl rfl (by kernel_rfl) (by kernel_rfl) (by kernel_rfl) (fun _ _ _ h => h) rfl hHeld ?_
        simp only [Act.put, List.setIfInBounds_toArray, List.set_cons_zero, List.set_cons_succ]
        refine take_off (i := 10) rfl rfl (by kernel_rfl) (by kernel_rfl) (by kernel_rfl) (fun _ _ _ h => h) rfl hHeld ?_
        simp only [Act.put, List.setIfInBounds_toArray, List.set_cons_zero, List.set_cons_succ]
        refine take_off (i := 11) rfl rfl (by kernel_rfl) (by kernel_rfl) (by kernel_rfl) (fun _ _ _ h => h) rfl hHeld ?_
        simp only [Act.put, List.setIfInBounds_toArray, List.set_cons_zero, List.set_cons_succ]
        refine take_off (i := 12) rfl rfl (by kernel_rfl) (by kernel_rfl) (by kernel_rfl) (fun _ _ _ h => h) rfl hHeld ?_
        simp only [Act.put, List.setIfInBounds_toArray, List.set_cons_zero, List.set_cons_succ]
        refine take_off (i := 13) rfl rfl (by kernel_rfl) (by kernel_rfl) (by kernel_rfl) (fun _ _ _ h => h) rfl hHeld ?_
        simp only [Act.put, List.setIfInBounds_toArray, List.set_cons_zero, List.set_cons_succ]
        refine take_off (i := 14) rfl rfl (by kernel_rfl) (by kernel_rfl) (by kernel_rfl) (fun _ _ _ h => h) rfl hHeld ?_
        simp only [Act.put, List.setIfInBounds_toArray, List.set_cons_zero, List.set_cons_succ]
        refine take_on (i := 15) (v := ?_) rfl rfl (by kernel_rfl) (by kernel_rfl) (by kernel_rfl) (fun _ _ _ h => h) rfl ?_ hHeld ?_
        rotate_left
        · (intro wq hSq; have xk := hSq.1.trans k0; have xv := hSq.2.trans kv; have t0 := cell_of_row _ _ 0 _ _ _ xk; have t1 := cell_of_row _ _ 1 _ _ _ xk; have t2 := cell_of_row _ _ 2 _ _ _ xk; have t3 := cell_of_row _ _ 3 _ _ _ xk; have t4 := cell_of_row _ _ 4 _ _ _ xk; have t5 := cell_of_row _ _ 5 _ _ _ xk; have u1 := cell_of_row _ _ 1 _ _ _ xv; go_simp <;> first | with_reducible rfl | rfl)
        simp only [Act.put, List.setIfInBounds_toArray, List.set_cons_zero, List.set_cons_succ]
        refine take_on (i := 16) (v := ?_) rfl rfl (by kernel_rfl) (by kernel_rfl) (by kernel_rfl) (fun _ _ _ h => h) rfl ?_ hHeld ?_
        rotate_left
        · (intro wq hSq; have xk := hSq.1.trans k0; have xv := hSq.2.trans kv; have t0 := cell_of_row _ _ 0 _ _ _ xk; have t1 := cell_of_row _ _ 1 _ _ _ xk; have t2 := cell_of_row _ _ 2 _ _ _ xk; have t3 := cell_of_row _ _ 3 _ _ _ xk; have t4 := cell_of_row _ _ 4 _ _ _ xk; have t5 := cell_of_row _ _ 5 _ _ _ xk; have u1 := cell_of_row _ _ 1 _ _ _ xv; go_simp <;> first | with_reducible rfl | rfl)
        simp only [Act.put, List.setIfInBounds_toArray, List.set_cons_zero, List.set_cons_succ]
        refine take_off (i := 17) rfl rfl (by kernel_rfl) (by kernel_rfl) (by kernel_rfl) (fun _ _ _ h => h) rfl hHeld ?_
        simp only [Act.put, List.setIfInBounds_toArray, List.set_cons_zero, List.set_cons_succ]
        refine take_off (i := 18) rfl rfl (by kernel_rfl) (by kernel_rfl) (by kernel_rfl) (fun _ _ _ h => h) rfl hHeld ?_
        simp only [Act.put, List.setIfInBounds_toArray, List.set_cons_zero, List.set_cons_succ]
        refine take_off (i := 19) rfl rfl (by kernel_rfl) (by kernel_rfl) (by kernel_rfl) (fun _ _ _ h => h) rfl hHeld ?_
        simp only [Act.put, List.setIfInBounds_toArray, List.set_cons_zero, List.set_cons_succ]
        refine take_off (i := 20) rfl rfl (by kernel_rfl) (by kernel_rfl) (by kernel_rfl) (fun _ _ _ h => h) rfl hHeld ?_
        simp only [Act.put, List.setIfInBounds_toArray, List.set_cons_zero, List.set_cons_succ]
        refine take_off (i := 21) rfl rfl (by kernel_rfl) (by kernel_rfl) (by kernel_rfl) (fun _ _ _ h => h) rfl hHeld ?_
        simp only [Act.put, List.setIfInBounds_toArray, List.set_cons_zero, List.set_cons_succ]
        refine take_off (i := 22) rfl rfl (by kernel_rfl) (by kernel_rfl) (by kernel_rfl) (fun _ _ _ h => h) rfl hHeld ?_
        simp only [Act.put, List.setIfInBounds_toArray, List.set_cons_zero, List.set_cons_succ]
        refine take_off (i := 23) rfl rfl (by kernel_rfl) (by kernel_rfl) (by kernel_rfl) (fun _ _ _ h => h) rfl hHeld ?_
        simp only [Act.put, List.setIfInBounds_toArray, List.set_cons_zero, List.set_cons_succ]
        refine take_off (i := 24) rfl rfl (by kernel_rfl) (by kernel_rfl) (by kernel_rfl) (fun _ _ _ h => h) rfl hHeld ?_
        simp only [Act.put, List.setIfInBounds_toArray, List.set_cons_zero, List.set_cons_succ]
        refine take_on (i := 25) (v := ?_) rfl rfl (by kernel_rfl) (by kernel_rfl) (by kernel_rfl) (fun _ _ _ h => h) rfl ?_ hHeld ?_
        rotate_left
        · (intro wq hSq; have xk := hSq.1.trans k0; have xv := hSq.2.trans kv; have t0 := cell_of_row _ _ 0 _ _ _ xk; have t1 := cell_of_row _ _ 1 _ _ _ xk; have t2 := cell_of_row _ _ 2 _ _ _ xk; have t3 := cell_of_row _ _ 3 _ _ _ xk; have t4 := cell_of_row _ _ 4 _ _ _ xk; have t5 := cell_of_row _ _ 5 _ _ _ xk; have u1 := cell_of_row _ _ 1 _ _ _ xv; go_simp <;> first | with_reducible rfl | rfl)
        simp only [Act.put, List.setIfInBounds_toArray, List.set_cons_zero, List.set_cons_succ]
        refine wpAnyH_done (by kernel_rfl) ?_ _
        go_wp2
        go_roundw
        case rel => exact ⟨k + 1, by omega, by go_num, HY⟩
        case measure => simp [intOf]; omega
    · have hn1 : ¬ (k : Int) < (m : Int) := by omega
      have HE := hide_it (HB1.out.trans (HD.out.bel.mono HB1.out.size))
      clear HD
      go_wp2
      go_ret
      exact ⟨rfl, HE.out⟩

end Go.Proofs.Ytcdlalmahjjbgab.storeEarlier
