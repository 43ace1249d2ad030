/- The law on All, walked. -/
import Derived.Test.YtadceolgekbgmaaFrameCountW
import Derived.Test.YtadceolgekbgmaaFd3
namespace Go.Proofs.Ytadceolgekbgmaa.frameAll
open Go.RowKit Go.Shelf

attribute [local go_sem] Oper.semAt_some

set_option maxRecDepth 100000 in
set_option maxHeartbeats 4000000 in
theorem walk (a : Option Addr) (cap : Nat) (zs : List Nat) (lv : Int) (hlv : -9223372036854775808 ≤ lv ∧ lv ≤ 9223372036854775807) (w : World) (hc : Came8 w a cap zs) (hs : zs.length ≤ 1048576) :
    Calls Try.prog 6 #[.slice a zs.length cap, .int .i64 lv] w fun e w' => e = .returned (.bool true) ∧ Below w.heap.size w w' := by
  obtain ⟨hlv1, hlv2⟩ := hlv
  have hl : zs.length ≤ 140737488355328 := by omega
  have hnil := hc.none
  have h8 := hc.all
  have hr := hc.row
  have hfn : ∀ (fn : Fn) (a b : Array Value) (w : World), (binOp .eql 40 (.func fn a b) .nilFunc).run Try.prog w = .ok (.bool false) w := fun _ _ _ _ => rfl
  clear hc
  obtain ⟨w0, hw0⟩ : ∃ w0, w0 = (w.alloc (.cells #[.int .i64 lv] 3)).alloc (.cells #[.bool false] 4) := ⟨_, rfl⟩
  have hb0 : Below w.heap.size w w0 := by rw [hw0]; exact ((Below.refl _ w).alloc (Nat.le_refl _) _).alloc (by simp) _
  have hz0 : w.heap.size + 1 < w0.heap.size := by rw [hw0]; simp
  have bR0 : Boxed w0 (w.heap.size + 1) 4 (.bool false) := by
    have := Boxed.new (w.alloc (.cells #[.int .i64 lv] 3)) 4 (.bool false)
    rw [hw0]; simpa using this
  have bL0 : Boxed w0 w.heap.size 3 (.int .i64 lv) := by rw [hw0]; exact (Boxed.new w _ _).alloc _
  have hh := head_any w0
  refine (callsIn_wide (n := 3)).1 ?_
  refine callsIn_of_wp_marks Try.func6 rfl trivial ?_ rfl
  simp only [Try.ntmps6, List.size_toArray, List.length_cons, List.length_nil, Nat.reduceAdd, Nat.reduceSub, Array.replicate_succ, Array.replicate_zero, List.push_toArray, List.append_toArray, List.nil_append, List.cons_append]
  gi_wp2_with fail
  rw [← hw0]
  clear hw0
  refine ⟨trivial, (callsIn_wide.2 hh).mono ?_⟩
  rintro e w1 ⟨rfl, hb1⟩
  have bR1 : Boxed w1 (w.heap.size + 1) 4 (.bool false) := bR0.kept (grown_none hb1) (by simp)
  have bL1 : Boxed w1 w.heap.size 3 (.int .i64 lv) := bL0.kept (grown_none hb1) (by simp)
  have hbw1 := hb0.trans (hb1.mono (by omega))
  have hz1 := hb1.size
  have hcp := copied_any a cap zs w1 (hr.below hbw1) hl hnil
  clear hh bR0 bL0 hb0 hb1
  gi_wp2_with fail
  refine ⟨trivial, (callsIn_wide.2 hcp).mono ?_⟩
  rintro e w2 ⟨⟨r2, rfl, ho2⟩, hb2⟩
  obtain ⟨p2, q2, hv2, hp2, hl2, hm2, hn2⟩ := ho2.row
  subst hv2
  have hrd := rall_any p2 q2 zs w2 hp2 h8 hl2 hm2 hs hn2
  have bR2 : Boxed w2 (w.heap.size + 1) 4 (.bool false) := bR1.kept (grown_none hb2) (by simp)
  have bL2 : Boxed w2 w.heap.size 3 (.int .i64 lv) := bL1.kept (grown_none hb2) (by simp)
  have hbw2 := hbw1.trans (hb2.mono hbw1.size)
  have hz2 := hb2.size
  clear ho2 hcp hp2 bR1 bL1 hbw1 hb2
  gi_wp2_with fail
  refine ⟨trivial, (callsIn_wide.2 hrd).mono ?_⟩
  rintro e w3 ⟨⟨v3, xs, rfl, hxs, hD3⟩, hb3⟩
  obtain ⟨a3, c3, rfl, _⟩ := hD3.at
  have bR3 : Boxed w3 (w.heap.size + 1) 4 (.bool false) := bR2.kept (grown_none hb3) (by simp)
  have bL3 : Boxed w3 w.heap.size 3 (.int .i64 lv) := bL2.kept (grown_none hb3) (by simp)
  have hbw3 := hbw2.trans (hb3.mono hbw2.size)
  have hz3 := hb3.size
  clear hrd bR2 bL2 hbw2 hb3 hm2 hn2 hl2
  -- the box in which the document's list lies
  obtain ⟨w4, hw4⟩ : ∃ w4, w4 = w3.alloc (.cells #[.slice a3 xs.length c3] 37) := ⟨_, rfl⟩
  have hb4 : Below w3.heap.size w3 w4 := by rw [hw4]; exact (Below.refl _ _).alloc (Nat.le_refl _) _
  have hbw4 := hbw3.trans (hb4.mono hbw3.size)
  have hz4 : w3.heap.size < w4.heap.size := by rw [hw4]; simp
  have bW4 : Boxed w4 w3.heap.size 37 (.slice a3 xs.length c3) := by rw [hw4]; exact Boxed.new w3 _ _
  have bR4 : Boxed w4 (w.heap.size + 1) 4 (.bool false) := bR3.kept (grown_none hb4) (by simp)
  have bL4 : Boxed w4 w.heap.size 3 (.int .i64 lv) := bL3.kept (grown_none hb4) (by simp)
  have hD4 := hD3.below hb4
  have hcp := copied_any a cap zs w4 (hr.below hbw4) hl hnil
  obtain ⟨bw, hbw⟩ : ∃ bw, bw = w3.heap.size := ⟨_, rfl⟩
  rw [← hbw] at bW4 hz4
  gi_wp2_with fail
  rw [← hw4, ← hbw]
  refine ⟨trivial, (callsIn_wide.2 hcp).mono ?_⟩
  rintro e w5 ⟨⟨r5, rfl, ho5⟩, hb5⟩
  obtain ⟨p5, q5, hv5, hp5, hl5, hm5, hn5⟩ := ho5.row
  subst hv5
  have hall := all_any p5 q5 zs w5 hp5 hl hn5
  have hz5 := hb5.size
  have hwb : w.heap.size + 1 < bw := by omega
  have hg5 : ∀ j, (Value.slice p5 zs.length q5).ownBlock = some j → w4.heap.size ≤ j ∧ j < w5.heap.size := fun j hj => ⟨ho5.ge hj, ho5.inside j hj⟩
  clear hcp hp5 hn5 hw4 hbw hb4 bR3 bL3 hD3 hbw3
  gi_wp2_with fail
  refine ⟨trivial, (callsIn_wide.2 hall).mono ?_⟩
  rintro e w6 ⟨v6, Bq, rfl, hbx, hown, hBq, hb6⟩
  have ho6 := ho5.below hb6
  have hz6 := hb6.size
  have hb46 := hb5.trans (hb6.mono hz5)
  clear hall ho5
  unfold maxLen at hm5
  obtain ⟨w8, hw8⟩ : ∃ w8, w8 = w6.alloc (.cells #[.int .i64 0] 3) := ⟨_, rfl⟩
  obtain ⟨nB, hnB⟩ : ∃ nB, nB = w6.heap.size := ⟨_, rfl⟩
  have hb8 : Below w6.heap.size w6 w8 := by rw [hw8]; exact (Below.refl _ _).alloc (Nat.le_refl _) _
  have hz8 : nB < w8.heap.size := by rw [hw8, hnB]; simp
  have hb48 := hb46.trans (hb8.mono (by omega))
  have hS8 : StA w nB bw Bq (.slice a3 xs.length c3) v6 w2.heap.size w5.heap.size xs zs lv 0 w8 :=
    ⟨by rw [hw8, hnB]; exact Boxed.new w6 _ _, bL4.kept (grown_none hb48) (by simp), bR4.kept (grown_none hb48) (by simp), bW4.kept (grown_none hb48) (by simp), hD4.below hb48, hbx.kept (grown_none hb8) (by simp), hown.below hb8, hbw4.trans (hb48.mono hbw4.size)⟩
  have hap : ApA w nB bw Bq v6 := ⟨by omega, by omega, by omega, by have := hbx.lt; omega, fun j hj => by have := hown.inside j hj; omega, by omega⟩
  have hw8b : w.heap.size + 1 < w8.heap.size := by omega
  clear bL4 bR4 bW4 hD4 hbx hown hbw4 hb46 hb48 hb8 ho6
  gi_wp2_with fail
  rw [← hw8, ← hnB]
  clear hw8 hnB
  generalize hact : ({ tmps := _, defers := [] } : Act) = act0
  generalize hQ : Exit.inBlock 0 _ = QQ
  have hQe : ∀ a W, QQ .normal a W → QQ (.exit 0) a W := by subst hQ; exact fun a W h => h
  -- behind the first loop
  have rest : ∀ (D m : Nat) (W : World), w8.heap.size ≤ D → StA w nB bw Bq (.slice a3 xs.length c3) v6 w2.heap.size w5.heap.size xs zs lv m W → ((m : Int) = if 1 ≤ lv ∧ lv < (xs.length : Int) then lv else (xs.length : Int)) → W.heap[D]? = some (.deferred (some [])) →
      QQ .normal { act0 with defers := { target := .collected D, args := #[] } :: act0.defers } W := by
    subst hQ hact
    intro D m W hD hS hm hK
    have q0 := hS.n.cell
    have f0 := hS.n.frozen
    have ql := hS.l.cell
    have qd := hS.d.cell
    have HS0 := hide_it (hS.set hap 0)
    have hKs := (KeepsOthers.setCell W ⟨nB, 0, none⟩ (.int .i64 ((0 : Nat) : Int))).same D _ hK rfl
    have hDl : D < W.heap.size := (Array.getElem?_eq_some_iff.1 hK).1
    have hbe : w.heap.size ≤ w8.heap.size := hS8.bel.size
    clear hS hK hS8
    have hcs : (lv < 1 ∧ m = xs.length) ∨ ((1 ≤ lv ∧ lv < (xs.length : Int)) ∧ lv = (m : Int)) ∨ ((1 ≤ lv ∧ (xs.length : Int) ≤ lv) ∧ m = xs.length) := by
      split at hm <;> omega
    clear hm
    obtain ⟨W', hW'⟩ : ∃ W', W' = W.setCell ⟨nB, 0, none⟩ (.int .i64 0) := ⟨_, rfl⟩
    have hS' : StA w nB bw Bq (.slice a3 xs.length c3) v6 w2.heap.size w5.heap.size xs zs lv 0 W' := by rw [hW']; exact HS0.out
    have hK' : W'.heap[D]? = some (.deferred (some [])) := by rw [hW']; exact hKs
    have hDl' : D < W'.heap.size := by rw [hW']; simpa using hDl
    replace hW' := hide_it hW'
    clear HS0 hKs
    rcases hcs with ⟨h1, rfl⟩ | ⟨⟨h1, h2⟩, rfl⟩ | ⟨⟨h1, h2⟩, rfl⟩
    all_goals
      gi_wp2_with fail
      rw [← hW'.out]
      clear hW' q0 f0 ql qd
      generalize hact2 : ({ tmps := _, defers := _ } : Act) = act2
      refine range_tells (F := Fence.wide) rfl (by omega) (gf := 27) (lb := #[.pointer (some ⟨Bq, 0, none⟩)]) (by rw [← hact2]; rfl) trivial (enters_of Try.func27 (by kernel_rfl) rfl)
        (tellsF _ Bq w5.heap.size v6 zs W' hS'.q hS'.own h8 (by omega) hl) (Below.refl _ _) kpF_t (kpF_b hS'.q.lt hS'.own.inside) (fun _ _ _ _ _ _ _ _ h1 h2 h3 => h3.put h1 h2) (fun _ => rfl)
        (fun pre W => StA w nB bw Bq (.slice a3 xs.length c3) v6 w2.heap.size w5.heap.size xs zs _ pre.length W ∧ W.heap[D]? = some (.deferred (some [])))
        (fun _ _ _ => False) ?hI2 (fun _ _ _ _ _ hs _ _ => hs) ⟨hS', hK'⟩
        (fun x => { tmps := (((act2.tmps.setIfInBounds 68 (.int .i64 (x.1 : Int))).setIfInBounds 69 x.2.1).setIfInBounds 11 (.int .i64 (x.1 : Int))).setIfInBounds 12 x.2.1, defers := [] }) ?assign2 ?body2 ?done2 ?stop2
      case hI2 => exact OwnFrom.and (StA.from (fun pre : List Hand => pre.length) hS'.bel.size) (ownFrom_block hDl')
      case assign2 =>
        subst hact2
        intro l x W K hK
        gi_wp2
        simp only [List.setIfInBounds_toArray, List.set_cons_zero, List.set_cons_succ] at hK
        exact hK
      case body2 =>
        subst hact2
        rintro l pre x X W3 hlw ⟨o, hlo, hoc⟩ ⟨hI, hDX⟩ hg hG
        obtain ⟨y, hy, ey1, ey2⟩ := hG.want hxs
        have hpl : pre.length < xs.length := (List.getElem?_eq_some_iff.1 hy).1
        have hSW := hI.grown hg (fun j e => by cases e; exact ⟨by have := hS'.bel.size; omega, o, hlo, hoc⟩)
        have hDW : W3.heap[D]? = some (.deferred (some [])) := (hg.block D (Array.getElem?_eq_some_iff.1 hDX).1 (by simp; omega)).trans hDX
        obtain ⟨a', c', ev, hxc, hcm, hat⟩ := hSW.doc.at
        cases ev
        obtain ⟨g, o3, rfl, _, _, hc0, hc1⟩ := hat pre.length y hy
        obtain ⟨pa, ca, hva, hpa, _, _, hna⟩ := (hSW.doc.each y (List.mem_of_getElem? hy)).row
        obtain ⟨px, cx, hvx, hpx, _, _, hnx⟩ := hG.2.row
        have hx8 : All8 x.2.2 := (frs_mem h8 (List.mem_of_getElem? hG.1)).2.1
        rw [hva] at hc1
        rw [ey2] at hc1 hpa hna
        rw [ey1] at hc0
        have hsm := same_any px pa cx ca x.2.2 x.2.2 W3 hpx hpa hx8 hx8 hnx hna
        rw [hvx]
        generalize x.2.2 = Py at *
        generalize x.1 = E at *
        have q0 := hSW.n.cell
        have q1 := hSW.d.cell
        have f0 := hSW.n.frozen
        unfold maxLen at hcm
        have hpi : ¬ (xs.length : Int) ≤ (pre.length : Int) := by omega
        have hpi2 : (pre.length : Int) < (xs.length : Int) := by omega
        have HSN := hide_it (hSW.set hap (pre.length + 1))
        have HDN := hide_it ((KeepsOthers.setCell W3 ⟨nB, 0, none⟩ (.int .i64 ((pre.length : Int) + 1))).same D _ hDW rfl)
        clear hI hg hG hlo hSW hat hpx hpa hy hnx hna hva hvx hS' hDX hDW hK'
        gi_wp2_with (refine ⟨trivial, ?_⟩; gi_at_call 13; refine (CallsIn.inRound l (callsIn_wide.2 hsm)).mono ?_; rintro e w9 ⟨rfl, hq⟩; have hq2 := hq.symm; subst hq2; clear hq)
        refine ⟨(KeepsOthers.setCell _ _ _).from _, hap.kp _ _, by simpa using HSN.out, HDN.out⟩
      case done2 =>
        subst hact2
        rintro D2 ys W3 hD2 hS2 ⟨hI, hDX⟩ hK2
        have hlen : ys.length = xs.length := by
          have := congrArg List.length (hS2.trans hxs.symm)
          simpa using this
        rw [hlen] at hI
        have q0 := hI.n.cell
        have q1 := hI.d.cell
        have q2 := hI.r.cell
        have f2 := hI.r.frozen
        have HI2 := hide_it hI.r
        have hB := hI.bel
        clear hI hlen hS2
        gi_wp2
        have hka := (KeepsOthers.setCell W3 ⟨w.heap.size + 1, 0, none⟩ (.bool true)).same D2 _ hK2 rfl
        have hkb0 := (KeepsOthers.setCell W3 ⟨w.heap.size + 1, 0, none⟩ (.bool true)).same D _ hDX rfl
        have hne : D ≠ D2 := by omega
        have hkb : ((W3.setCell ⟨w.heap.size + 1, 0, none⟩ (.bool true)).putObj D2 (.deferred none)).heap[D]? = some (.deferred (some [])) := by
          rw [World.putObj_heap_other hne]; exact hkb0
        refine ⟨by simp, .inl ⟨_, _, rfl, run_takeDeferred hka, ?_⟩⟩
        refine ⟨by simp, .inl ⟨_, _, rfl, run_takeDeferred hkb, ?_⟩⟩
        have x0 : Boxed (((W3.setCell ⟨w.heap.size + 1, 0, none⟩ (.bool true)).putObj D2 (.deferred none)).putObj D (.deferred none)) (w.heap.size + 1) 4 (.bool true) :=
          ((HI2.out.set _).kept (grownBy_putObj' _ D2 _) (by simp; omega)).kept (grownBy_putObj' _ D _) (by simp; omega)
        have y0 := x0.cell
        refine ⟨.bool true, by simp [results, Try.results6, go_sem, y0], rfl, ?_⟩
        exact ((hB.setCell (p := ⟨w.heap.size + 1, 0, none⟩) (by simp) _).trans (belowK_b (w := w) (Nat.le_refl _) _ D2 _ _ (by omega) hka rfl rfl)).trans (belowK_b (w := w) (Nat.le_refl _) _ D _ _ (by omega) hkb rfl rfl)
      case stop2 =>
        rintro D c pre W _ _ h _
        exact h.elim
  refine range_tells (F := Fence.wide) rfl (by omega) (gf := 27) (lb := #[.pointer (some ⟨Bq, 0, none⟩)]) (by rw [← hact]; rfl) trivial (enters_of Try.func27 (by kernel_rfl) rfl)
    (tellsF _ Bq w5.heap.size v6 zs w8 hS8.q hS8.own h8 (by omega) hl) (Below.refl _ _) kpF_t (kpF_b hS8.q.lt hS8.own.inside) (fun _ _ _ _ _ _ _ _ h1 h2 h3 => h3.put h1 h2) (fun _ => rfl)
    (fun pre W => StA w nB bw Bq (.slice a3 xs.length c3) v6 w2.heap.size w5.heap.size xs zs lv pre.length W ∧ ¬ (1 ≤ lv ∧ lv ≤ (pre.length : Int)))
    (fun c pre W => (StA w nB bw Bq (.slice a3 xs.length c3) v6 w2.heap.size w5.heap.size xs zs lv pre.length W) ∧ (c = .exit 0 ∧ (pre.length : Int) = lv ∧ 1 ≤ lv ∧ pre.length ≤ xs.length)) ?hI ?hIx ⟨hS8, by simp; omega⟩
    (fun x => { tmps := (((act0.tmps.setIfInBounds 24 (.int .i64 (x.1 : Int))).setIfInBounds 25 x.2.1).setIfInBounds 8 (.int .i64 (x.1 : Int))).setIfInBounds 9 x.2.1, defers := [] }) ?assign ?body ?done ?stop
  case hI => exact OwnFrom.and (StA.from (fun pre : List Hand => pre.length) hS8.bel.size) (ownFrom_pure _ _)
  case hIx => exact fun c => OwnFrom.and (StA.from (fun pre : List Hand => pre.length) hS8.bel.size) (ownFrom_pure _ _)
  case assign =>
    subst hact
    intro l x W K hK
    gi_wp2
    simp only [List.setIfInBounds_toArray, List.set_cons_zero, List.set_cons_succ] at hK
    exact hK
  case body =>
    subst hact
    clear rest
    rintro l pre x X W hlw ⟨o, hlo, hoc⟩ ⟨hI, hno⟩ hg hG
    obtain ⟨y, hy, ey1, ey2⟩ := hG.want hxs
    have hpl : pre.length < xs.length := (List.getElem?_eq_some_iff.1 hy).1
    have hSW := hI.grown hg (fun j e => by cases e; exact ⟨by have := hS8.bel.size; omega, o, hlo, hoc⟩)
    obtain ⟨a', c', ev, hxc, hcm, hat⟩ := hSW.doc.at
    cases ev
    obtain ⟨g, o3, rfl, _, _, hc0, hc1⟩ := hat pre.length y hy
    obtain ⟨pa, ca, hva, hpa, _, _, hna⟩ := (hSW.doc.each y (List.mem_of_getElem? hy)).row
    obtain ⟨px, cx, hvx, hpx, _, _, hnx⟩ := hG.2.row
    have hx8 : All8 x.2.2 := (frs_mem h8 (List.mem_of_getElem? hG.1)).2.1
    rw [hva] at hc1
    rw [ey2] at hc1 hpa hna
    rw [ey1] at hc0
    have hsm := same_any px pa cx ca x.2.2 x.2.2 W hpx hpa hx8 hx8 hnx hna
    rw [hvx]
    generalize x.2.2 = Py at *
    generalize x.1 = E at *
    have q0 := hSW.n.cell
    have q1 := hSW.d.cell
    have q2 := hSW.l.cell
    have f0 := hSW.n.frozen
    have hl2 : w.heap.size ≠ nB := hap.l.symm
    have HSW := hide_it hSW
    unfold maxLen at hcm
    have hpi : ¬ (xs.length : Int) ≤ (pre.length : Int) := by omega
    have hpi2 : (pre.length : Int) < (xs.length : Int) := by omega
    have HSN := hide_it (hSW.set hap (pre.length + 1))
    clear hI hg hG hlo hSW hat hpx hpa hy hnx hna hva hvx hS8
    by_cases hlv : (pre.length : Int) + 1 = lv
    · gi_wp2_with (refine ⟨trivial, ?_⟩; gi_at_call 13; refine (CallsIn.inRound l (callsIn_wide.2 hsm)).mono ?_; rintro e w9 ⟨rfl, hq⟩; have hq2 := hq.symm; subst hq2; clear hq)
      have hsn := HSN.out
      rw [show ((pre.length + 1 : Nat) : Int) = lv by omega] at hsn
      refine ⟨(KeepsOthers.setCell _ _ _).from _, by simpa using hsn, rfl, by simpa using hlv, by omega, by simp; omega⟩
    · gi_wp2_with (refine ⟨trivial, ?_⟩; gi_at_call 13; refine (CallsIn.inRound l (callsIn_wide.2 hsm)).mono ?_; rintro e w9 ⟨rfl, hq⟩; have hq2 := hq.symm; subst hq2; clear hq)
      refine ⟨(KeepsOthers.setCell _ _ _).from _, hap.kp _ _, by simpa using HSN.out, by simp; omega⟩
  case done =>
    rintro D ys W hD hS ⟨hI, hno⟩ hK
    have hlen : ys.length = xs.length := by
      have := congrArg List.length (hS.trans hxs.symm)
      simpa using this
    rw [hlen] at hI hno
    exact rest D xs.length W hD hI (by split <;> omega) hK
  case stop =>
    rintro D c pre W hD hS ⟨hI, rfl, h1, h2, h3⟩ hK
    exact wpIn_exit (hQe _ _ (rest D pre.length W hD hI (by split <;> omega) hK))
end Go.Proofs.Ytadceolgekbgmaa.frameAll
