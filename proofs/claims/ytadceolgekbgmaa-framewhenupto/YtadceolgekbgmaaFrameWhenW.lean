/- The law 'the frames are those of the call', walked. -/
import Derived.Test.YtadceolgekbgmaaFrameCountW
import Derived.Test.YtadceolgekbgmaaFd2
namespace Go.Proofs.Ytadceolgekbgmaa.frameWhen
open Go.RowKit Go.Shelf

attribute [local go_sem] Oper.semAt_some

theorem fill_step {zs : List Nat} {k x : Nat} (hk : k < zs.length) : (List.replicate k x ++ zs.drop k).set k x = List.replicate (k + 1) x ++ zs.drop (k + 1) := by
  rw [List.set_append_right _ _ (by simp)]
  rw [List.length_replicate, Nat.sub_self, List.drop_eq_getElem_cons hk, List.set_cons_zero, List.replicate_succ', List.append_assoc]
  rfl
theorem fill_len {zs : List Nat} {k x : Nat} (hk : k ≤ zs.length) : (List.replicate k x ++ zs.drop k).length = zs.length := by simp; omega

set_option maxRecDepth 100000 in
set_option maxHeartbeats 4000000 in
theorem walk (a : Option Addr) (cap : Nat) (zs : List Nat) (f : Nat) (w : World) (hc : Came8 w a cap zs) (hs : zs.length ≤ 1048576) (_hf : f < 256) :
    Calls Try.prog 7 #[.slice a zs.length cap, .int .u8 (f : Int)] w fun e w' => e = .returned (.bool true) ∧ Below w.heap.size w w' := by
  have hl : zs.length ≤ 140737488355328 := by omega
  have hnil := hc.none
  have h8 := hc.all
  have hr := hc.row
  have hfn : ∀ (fn : Fn) (a b : Array Value) (w : World), (binOp .eql 40 (.func fn a b) .nilFunc).run Try.prog w = .ok (.bool false) w := fun _ _ _ _ => rfl
  clear hc
  obtain ⟨w0, hw0⟩ : ∃ w0, w0 = w.alloc (.cells #[.bool false] 4) := ⟨_, rfl⟩
  have hb0 : Below w.heap.size w w0 := by rw [hw0]; exact (Below.refl _ _).alloc (Nat.le_refl _) _
  have hz0 : w.heap.size < w0.heap.size := by rw [hw0]; simp
  have bR0 : Boxed w0 w.heap.size 4 (.bool false) := by rw [hw0]; exact Boxed.new w _ _
  have hh := head_any w0
  refine (callsIn_wide (n := 3)).1 ?_
  refine callsIn_of_wp_marks Try.func7 rfl trivial ?_ rfl
  simp only [Try.ntmps7, List.size_toArray, List.length_cons, List.length_nil, Nat.reduceAdd, Nat.reduceSub, Array.replicate_succ, Array.replicate_zero, List.push_toArray, List.append_toArray, List.nil_append, List.cons_append]
  gi_wp2_with fail
  rw [← hw0]
  clear hw0
  refine ⟨trivial, (callsIn_wide.2 hh).mono ?_⟩
  rintro e w1 ⟨rfl, hb1⟩
  have bR1 : Boxed w1 w.heap.size 4 (.bool false) := bR0.kept (grown_none hb1) (by simp)
  have hbw1 := hb0.trans (hb1.mono (by omega))
  have hz1 := hb1.size
  have hcp := copied_any a cap zs w1 (hr.below hbw1) hl hnil
  clear hh bR0 hb0 hb1
  gi_wp2_with fail
  refine ⟨trivial, (callsIn_wide.2 hcp).mono ?_⟩
  rintro e w2 ⟨⟨r2, rfl, ho2⟩, hb2⟩
  obtain ⟨p2, q2, hv2, hp2, hl2, hm2, hn2⟩ := ho2.row
  subst hv2
  have hrd := rall_any p2 q2 zs w2 hp2 h8 hl2 hm2 hs hn2
  have bR2 : Boxed w2 w.heap.size 4 (.bool false) := bR1.kept (grown_none hb2) (by simp)
  have hbw2 := hbw1.trans (hb2.mono hbw1.size)
  have hz2 := hb2.size
  clear ho2 hcp hp2 bR1 hbw1 hb2
  gi_wp2_with fail
  refine ⟨trivial, (callsIn_wide.2 hrd).mono ?_⟩
  rintro e w3 ⟨⟨v3, xs, rfl, hxs, hD3⟩, hb3⟩
  obtain ⟨a3, c3, rfl, _⟩ := hD3.at
  have bR3 : Boxed w3 w.heap.size 4 (.bool false) := bR2.kept (grown_none hb3) (by simp)
  have hbw3 := hbw2.trans (hb3.mono hbw2.size)
  have hz3 := hb3.size
  clear hrd bR2 hbw2 hb3 hm2 hn2 hl2
  -- the box in which the document's list lies
  obtain ⟨w4, hw4⟩ : ∃ w4, w4 = w3.alloc (.cells #[.slice a3 xs.length c3] 37) := ⟨_, rfl⟩
  have hb4 : Below w3.heap.size w3 w4 := by rw [hw4]; exact (Below.refl _ _).alloc (Nat.le_refl _) _
  have hbw4 := hbw3.trans (hb4.mono hbw3.size)
  have hz4 : w3.heap.size < w4.heap.size := by rw [hw4]; simp
  have bW4 : Boxed w4 w3.heap.size 37 (.slice a3 xs.length c3) := by rw [hw4]; exact Boxed.new w3 _ _
  have bR4 : Boxed w4 w.heap.size 4 (.bool false) := bR3.kept (grown_none hb4) (by simp)
  have hD4 := hD3.below hb4
  have hcp := copied_any a cap zs w4 (hr.below hbw4) hl hnil
  obtain ⟨bw, hbw⟩ : ∃ bw, bw = w3.heap.size := ⟨_, rfl⟩
  rw [← hbw] at bW4 hz4
  gi_wp2_with fail
  rw [← hw4, ← hbw]
  refine ⟨trivial, (callsIn_wide.2 hcp).mono ?_⟩
  rintro e w5 ⟨⟨r5, rfl, ho5⟩, hb5⟩
  obtain ⟨p5, q5, hv5, hp5, hl5, hm5, hn5⟩ := ho5.row
  subst hv5
  have hall := all_any p5 q5 zs w5 hp5 hl hn5
  have hz5 := hb5.size
  have hwb : w.heap.size < bw := by omega
  have hg5 : ∀ j, (Value.slice p5 zs.length q5).ownBlock = some j → w4.heap.size ≤ j ∧ j < w5.heap.size := fun j hj => ⟨ho5.ge hj, ho5.inside j hj⟩
  clear hcp hp5 hn5 hw4 hbw hb4 bR3 hD3 hbw3
  gi_wp2_with fail
  refine ⟨trivial, (callsIn_wide.2 hall).mono ?_⟩
  rintro e w6 ⟨v6, Bq, rfl, hbx, hown, hBq, hb6⟩
  have ho6 := ho5.below hb6
  have hz6 := hb6.size
  have hb46 := hb5.trans (hb6.mono hz5)
  clear hall ho5
  unfold maxLen at hm5
  gi_wp2_with fail
  gi_loopw [25, 8] (fun i _ wr => ∃ k : Nat, k ≤ zs.length ∧ i = .int .i64 (k : Int) ∧ Hid (OwnB wr w4.heap.size (.slice p5 zs.length q5) (List.replicate k f ++ zs.drop k)) ∧ Hid (w6.grownBy wr (Value.slice p5 zs.length q5).ownBlock)) (fun i _ _ => zs.length - (intOf i).toNat)
  case atStart => exact ⟨0, by omega, rfl, (by show OwnB _ _ _ _; simpa using ho6), World.grownBy.refl _ _⟩
  case round =>
    obtain ⟨k, hk, rfl, hO, hG⟩ := hrel
    clear ho6
    by_cases hlt : k < zs.length
    · have hki : (k : Int) < (zs.length : Int) := by omega
      have hfl := fill_len (zs := zs) (x := f) hk
      obtain ⟨g', cur, e', hnn, _, hhc, hcc⟩ := hO.out.at (by rw [hfl]; omega)
      cases e'
      clear hnn
      have hcell : wr.cell? ⟨g', k, none⟩ = some (.int .u8 ((at0 (List.replicate k f ++ zs.drop k) k : Nat) : Int)) := by
        rw [cell_of_row _ _ _ _ _ _ hhc]; exact hcc k (by rw [hfl]; exact hlt)
      have hfz := frozen_of_row wr g' k _ _ hhc
      have hset := hO.out.set (i := k) (by rw [hfl]; exact hlt) f
      rw [fill_step hlt] at hset
      have hgr := grown_setCell (g := g') hG.out k (.int .u8 (f : Int))
      have HS := hide_it hset
      have HGR := hide_it hgr
      clear hhc hcc hO hG hset hgr hfl
      generalize at0 (List.replicate k f ++ zs.drop k) k = y at *
      gi_wp2
      go_roundw
      case rel => exact ⟨k + 1, by omega, by go_num, HS.out, HGR.out⟩
      case measure => simp [intOf]; omega
    · have hkn : ¬ (k : Int) < (zs.length : Int) := by omega
      have hb4r : Below w4.heap.size w4 wr := hb46.grown hG.out (by omega) (fun j e => (hg5 j e).1)
      have bW7 : Boxed wr bw 37 (.slice a3 xs.length c3) := bW4.kept (grown_none hb4r) (by simp)
      have bR7 : Boxed wr w.heap.size 4 (.bool false) := bR4.kept (grown_none hb4r) (by simp)
      have hD7 := hD4.below hb4r
      have hbx7 : Boxed wr Bq 22 v6 := hbx.kept hG.out (fun e => by have := hg5 Bq e.symm; omega)
      have hown7 : OwnB wr w5.heap.size v6 zs := hown.keep hG.out (fun j hj e => by have := hg5 j e; have := hown.ge hj; omega)
      have hbw7 := hbw4.trans (hb4r.mono hbw4.size)
      have hzr := hG.out.size
      clear hO hG hbx hown bW4 bR4 hD4 hb4r hb46 hbw4
      obtain ⟨w8, hw8⟩ : ∃ w8, w8 = wr.alloc (.cells #[.int .i64 0] 3) := ⟨_, rfl⟩
      obtain ⟨nB, hnB⟩ : ∃ nB, nB = wr.heap.size := ⟨_, rfl⟩
      have hb8 : Below wr.heap.size wr w8 := by rw [hw8]; exact (Below.refl _ _).alloc (Nat.le_refl _) _
      have hz8 : nB < w8.heap.size := by rw [hw8, hnB]; simp
      have bN8 : Boxed w8 nB 3 (.int .i64 ((0 : Nat) : Int)) := by rw [hw8, hnB]; exact Boxed.new wr _ _
      have bW8 : Boxed w8 bw 37 (.slice a3 xs.length c3) := bW7.kept (grown_none hb8) (by simp)
      have bR8 : Boxed w8 w.heap.size 4 (.bool false) := bR7.kept (grown_none hb8) (by simp)
      have hD8 := hD7.below hb8
      have hbx8 : Boxed w8 Bq 22 v6 := hbx7.kept (grown_none hb8) (by simp)
      have hown8 := hown7.below hb8
      have hbw8 := hbw7.trans (hb8.mono hbw7.size)
      have hne1 : nB ≠ bw := by rw [hnB]; omega
      have hne2 : nB ≠ w.heap.size := by rw [hnB]; omega
      have hne3 : nB ≠ Bq := by have := hbx7.lt; omega
      have hne4 : ∀ j, v6.ownBlock = some j → nB ≠ j := fun j hj => by have := hown7.inside j hj; omega
      have hBl := hbx8.lt
      have hvl := hown8.inside
      have hnw : w.heap.size ≤ nB := by rw [hnB]; omega
      clear bW7 bR7 hD7 hbx7 hown7 hbw7
      gi_wp2_with fail
      rw [← hw8, ← hnB]
      clear hw8 hnB
      generalize hact : ({ tmps := _, defers := [] } : Act) = act0
      refine range_tells (F := Fence.wide) rfl (by omega) (gf := 27) (lb := #[.pointer (some ⟨Bq, 0, none⟩)]) (by rw [← hact]; rfl) trivial (enters_of Try.func27 (by kernel_rfl) rfl)
        (tellsF _ Bq w5.heap.size v6 zs w8 hbx8 hown8 h8 (by omega) hl) (Below.refl _ _) kpF_t (kpF_b hBl hvl) (fun _ _ _ _ _ _ _ _ h1 h2 h3 => h3.put h1 h2) (fun _ => rfl)
        (fun pre W => Boxed W nB 3 (.int .i64 ((pre.length : Nat) : Int)) ∧ Boxed W bw 37 (.slice a3 xs.length c3) ∧ Boxed W w.heap.size 4 (.bool false) ∧ DocF W w2.heap.size (.slice a3 xs.length c3) xs ∧ Below w.heap.size w W)
        (fun _ _ _ => False) ?hI (fun _ _ _ _ _ hs _ _ => hs) ⟨bN8, bW8, bR8, hD8, hbw8⟩
        (fun x => { tmps := (((act0.tmps.setIfInBounds 34 (.int .i64 (x.1 : Int))).setIfInBounds 35 x.2.1).setIfInBounds 10 (.int .i64 (x.1 : Int))).setIfInBounds 11 x.2.1, defers := [] }) ?assign ?body ?done ?stop
      case hI =>
        exact OwnFrom.and (Own.from (boxed_own _ _ (fun pre : List Hand => .int .i64 ((pre.length : Nat) : Int))) _) (OwnFrom.and (Own.from (boxed_own _ _ (fun _ : List Hand => _)) _) (OwnFrom.and (Own.from (boxed_own _ _ (fun _ : List Hand => _)) _) (OwnFrom.and (Own.from (docF_own _ _ _) _) (ownFrom_below (Nat.le_refl _) hbw8.size))))
      case assign =>
        subst hact
        intro l x W K hK
        gi_wp2
        simp only [List.setIfInBounds_toArray, List.set_cons_zero, List.set_cons_succ] at hK
        exact hK
      case body =>
        subst hact
        rintro l pre x X W hlw ⟨o, hlo, hoc⟩ ⟨i0, i1, i2, hDX, hB⟩ hg hG
        obtain ⟨y, hy, ey1, ey2⟩ := hG.want hxs
        have hpl : pre.length < xs.length := (List.getElem?_eq_some_iff.1 hy).1
        have j0 := i0.kept hg (by simp; omega)
        have j1 := i1.kept hg (by simp; omega)
        have j2 := i2.kept hg (by simp; omega)
        have hDW : DocF W w2.heap.size (.slice a3 xs.length c3) xs := docF_own (β := Unit) _ _ _ () X W (some l) hDX hg (fun r e => by cases e; exact ⟨o, hlo, hoc⟩)
        have hBW : Below w.heap.size w W := hB.grown hg hB.size (fun j e => by cases e; omega)
        obtain ⟨a', c', ev, hxc, hcm, hat⟩ := hDW.at
        cases ev
        obtain ⟨g, o3, rfl, _, _, hc0, hc1⟩ := hat pre.length y hy
        obtain ⟨pa, ca, hva, hpa, _, _, hna⟩ := (hDW.each y (List.mem_of_getElem? hy)).row
        obtain ⟨px, cx, hvx, hpx, _, _, hnx⟩ := hG.2.row
        have hx8 : All8 x.2.2 := by
          have := frs_mem h8 (List.mem_of_getElem? hG.1)
          exact this.2.1
        rw [hva] at hc1
        rw [ey2] at hc1 hpa hna
        rw [ey1] at hc0
        have hsm := same_any px pa cx ca x.2.2 x.2.2 W hpx hpa hx8 hx8 hnx hna
        rw [hvx]
        generalize x.2.2 = Py at *
        generalize x.1 = E at *
        have q0 := j0.cell
        have q1 := j1.cell
        have f0 := j0.frozen
        have HJ0 := hide_it j0
        have HJ1 := hide_it j1
        have HJ2 := hide_it j2
        have HDW := hide_it hDW
        unfold maxLen at hcm
        have hpi : ¬ (xs.length : Int) ≤ (pre.length : Int) := by omega
        have hpi2 : (pre.length : Int) < (xs.length : Int) := by omega
        clear j0 j1 j2 i0 i1 i2 hB hg hG hlo hDX hDW hat hpx hpa hy hnx hna hva hvx
        gi_wp2_with (refine ⟨trivial, ?_⟩; gi_at_call 13; refine (CallsIn.inRound l (callsIn_wide.2 hsm)).mono ?_; rintro e w9 ⟨rfl, hq⟩; have hq2 := hq.symm; subst hq2; clear hq)
        refine ⟨(KeepsOthers.setCell _ _ _).from _, ⟨by simp, Below.heap_setCell _ _ _ _ (by simpa using hne3.symm), fun j hj => Below.heap_setCell _ _ _ _ (by simpa using (hne4 j hj).symm)⟩, ?_, HJ1.out.other hne1.symm _, HJ2.out.other hne2.symm _, HDW.out.box HJ0.out (by decide), hBW.setCell (p := ⟨nB, 0, none⟩) hnw _⟩
        have := HJ0.out.set (.int .i64 ((pre.length : Int) + 1))
        simpa using this
      case done =>
        subst hact
        rintro D ys W hD hS ⟨i0, i1, i2, _, hB⟩ hK
        have hlen : ys.length = xs.length := by
          have := congrArg List.length (hS.trans hxs.symm)
          simpa using this
        rw [hlen] at i0
        have q0 := i0.cell
        have q1 := i1.cell
        have q2 := i2.cell
        have f2 := i2.frozen
        have HI2 := hide_it i2
        clear i0 i1 i2 hlen hS
        gi_wp2
        have hK2 := (KeepsOthers.setCell W ⟨w.heap.size, 0, none⟩ (.bool true)).same D _ hK rfl
        refine ⟨by simp, .inl ⟨_, _, rfl, run_takeDeferred hK2, ?_⟩⟩
        have x0 : Boxed ((W.setCell ⟨w.heap.size, 0, none⟩ (.bool true)).putObj D (.deferred none)) w.heap.size 4 (.bool true) :=
          (HI2.out.set _).kept (grownBy_putObj' _ D _) (by simp; omega)
        have y0 := x0.cell
        refine ⟨.bool true, by simp [results, Try.results7, go_sem, y0], rfl, ?_⟩
        exact (hB.setCell (p := ⟨w.heap.size, 0, none⟩) (Nat.le_refl _) _).trans (belowK_b (w := w) (Nat.le_refl _) _ D _ _ (by omega) hK2 rfl rfl)
      case stop =>
        rintro D c pre W _ _ h _
        exact h.elim
end Go.Proofs.Ytadceolgekbgmaa.frameWhen
