/- A step of both areas, walked: Cut, Trim. -/
import Derived.Test.YtejaaalgnbnalaaSt2
namespace Go.Proofs.Ytejaaalgnbnalaa
open Go.RowKit

/-- What the document's call answers: an area in new memory, or the very one that it was handed. -/
structure Dr (W0 : World) (da0 sa0 da sa : Value) (bs : List Nat) (k : Nat) (w : World) : Prop where
  bel : Below W0.heap.size W0 w
  dv : Dv w da sa bs k
  new : (da = da0 ∧ sa = sa0) ∨ ∀ j, da.ownBlock = some j ∨ sa.ownBlock = some j → W0.heap.size ≤ j
theorem Dn.dr {W0 w : World} {da sa : Value} {bs : List Nat} {k : Nat} (h : Dn W0 da sa bs k w) (da0 sa0 : Value) : Dr W0 da0 sa0 da sa bs k w :=
  ⟨h.bel, h.dv, .inr fun j hj => by
    rcases hj with hj | hj
    · exact (h.by_.inside j hj).1
    · exact (h.sf.inside j hj).1⟩
theorem Dv.dr {W0 w : World} {da sa : Value} {bs : List Nat} {k : Nat} (h : Dv W0 da sa bs k) (hb : Below W0.heap.size W0 w) : Dr W0 da sa da sa bs k w := ⟨hb, h.below hb, .inl ⟨rfl, rfl⟩⟩
theorem Dr.lower {W0 w1 w : World} {da0 sa0 da sa : Value} {bs : List Nat} {k : Nat} (h : Dr w1 da0 sa0 da sa bs k w) (hb : Below W0.heap.size W0 w1) : Dr W0 da0 sa0 da sa bs k w := by
  refine ⟨hb.trans (h.bel.mono hb.size), h.dv, ?_⟩
  rcases h.new with h2 | h2
  · exact .inl h2
  · exact .inr fun j hj => Nat.le_trans hb.size (h2 j hj)
theorem Dr.below {W0 w w' : World} {da0 sa0 da sa : Value} {bs : List Nat} {k : Nat} (h : Dr W0 da0 sa0 da sa bs k w) (hb : Below w.heap.size w w') : Dr W0 da0 sa0 da sa bs k w' := ⟨h.bel.trans (hb.mono h.bel.size), h.dv.below hb, h.new⟩

/-- The document's area catches up. -/
theorem Md.docr {w w' : World} {F : Nat → Prop} {pp p : Nat} {v da sa da' sa' : Value} {Bd : Nat} {bd : List Nat} {kd B : Nat} {bs : List Nat} {k : Nat} (h : Md w F pp p v da sa Bd bd kd B bs k) (hD : Dr w da sa da' sa' bs k w') : Md (set3 w' pp (B : Int) da' sa') (grow w F) pp p v da' sa' B bs k B bs k := by
  have h1 := h.below hD.bel
  have hne : ∀ j, Ft p v j → j ≠ pp := fun j hj e => h.sep1 (e ▸ hj)
  have hlt := h.lt
  have hcase : ∀ j, da'.ownBlock = some j ∨ sa'.ownBlock = some j → ¬ Ft p v j ∧ j ≠ pp ∧ (F j ∨ w.heap.size ≤ j) := fun j hj => by
    rcases hD.new with ⟨rfl, rfl⟩ | h2
    · exact ⟨(h.sep2 j hj).1, (h.sep2 j hj).2, .inl (h.foot j (.inr (.inr hj)))⟩
    · have h3 := h2 j hj
      exact ⟨fun h4 => by have := h.ar.inside j h4; omega, by omega, .inr h3⟩
  refine ⟨set3_blk h1.blk _ _ _, h1.ar.keep (set3_keep _ _ _ _ _ _ (hne p (.inl rfl))) (fun j hj => set3_keep _ _ _ _ _ _ (hne j (.inr hj))),
    ⟨(hD.dv.by_).keep fun j hj => set3_keep _ _ _ _ _ _ (hcase j (.inl hj)).2.1, (hD.dv.sf).keep fun j hj => set3_keep _ _ _ _ _ _ (hcase j (.inr hj)).2.1, hD.dv.le⟩, h.sep1, fun j hj => ⟨(hcase j hj).1, (hcase j hj).2.1⟩, ?_⟩
  intro j hj
  rcases hj with rfl | hj | hj
  · exact .inl (h.foot _ (.inl rfl))
  · exact .inl (h.foot j (.inr (.inl hj)))
  · exact (hcase j hj).2.2
theorem two_docs {w W0 w1 w2 : World} {F : Nat → Prop} {pp p : Nat} {v v1 da sa da' sa' : Value} {B : Nat} {bs : List Nat} {k B' : Nat} {bs' : List Nat} {k' : Nat} (hb0 : Below w.heap.size w W0) (hM0 : Md W0 F pp p v da sa B bs k B bs k) (hm : Moved W0 p 0 v B' bs' k' w1)
    (hM1 : Md w1 (grow W0 F) pp p v1 da sa B bs k B' bs' k') (hD : Dr w1 da sa da' sa' bs' k' w2) : Stepd w F pp B' bs' k' (.returned (.bool true)) (set3 w2 pp (B' : Int) da' sa') := by
  have h1 := (hM0.prog_chg hm)
  refine ⟨rfl, ⟨p, v1, da', sa', (hM1.docr hD).mono (grow3 hb0.size h1.size)⟩, ?_⟩
  have hc : Chg F W0 w2 := h1.trans (Chg.new (S := F) hD.bel) (fun _ _ h => h)
  exact (Chg.new hb0).trans (hM0.set3_chg hc _ _ _) (fun _ _ h => h)

/-- What is done so far of 'd, f := call': the answer, the place for it. -/
structure Lk (R : World → Value → Value → World → Prop) (W0 w : World) (o : Option (Value × Value)) (q : Option Nat) : Prop where
  bel : Below W0.heap.size W0 w
  a : ∀ x, o = some x → R W0 x.1 x.2 w
  q : ∀ g, q = some g → W0.heap.size ≤ g ∧ BoxD w g 0 (.slice none 0 0) (.slice none 0 0)
section
variable {da0 sa0 : Value} {bs : List Nat} {k : Nat} {W0 w w' : World} {o : Option (Value × Value)} {q : Option Nat}
theorem Lk.start {R : World → Value → Value → World → Prop} (W0 : World) : Lk R W0 W0 none none := ⟨Below.refl _ _, (fun v e => by cases e), fun v e => by cases e⟩
theorem Lk.drew {R : World → Value → Value → World → Prop} (h : Lk R W0 w none none) : Lk R W0 w.drew none none := ⟨h.bel.drew, (fun v e => by cases e), fun v e => by cases e⟩
theorem Lk.call {da sa : Value} (h : Lk (fun W da' sa' w' => Dr W da0 sa0 da' sa' bs k w') W0 w none q) (_hb : Below W0.heap.size W0 w) (hD : Dr w da0 sa0 da sa bs k w') : Lk (fun W da' sa' w' => Dr W da0 sa0 da' sa' bs k w') W0 w' (some (da, sa)) q :=
  ⟨h.bel.trans (hD.bel.mono h.bel.size), (fun v e => by cases e; exact hD.lower h.bel), fun g e => ⟨(h.q g e).1, (h.q g e).2.below hD.bel⟩⟩
theorem Lk.box (h : Lk (fun W da' sa' w' => Dr W da0 sa0 da' sa' bs k w') W0 w o none) : ∃ y, y = w.alloc (.cells #[.int .i64 0, .slice none 0 0, .slice none 0 0] 52) ∧ Lk (fun W da' sa' w' => Dr W da0 sa0 da' sa' bs k w') W0 y o (some w.heap.size) := by
  have hb : Below w.heap.size w (w.alloc (.cells #[.int .i64 0, .slice none 0 0, .slice none 0 0] 52)) := (Below.refl _ _).alloc (Nat.le_refl _) _
  exact ⟨_, rfl, h.bel.trans (hb.mono h.bel.size), (fun x e => (h.a x e).below hb), fun g e => by cases e; exact ⟨h.bel.size, BoxD.new _ _ _ _⟩⟩
theorem Lk.fin {da sa : Value} {g : Nat} (h : Lk (fun W da' sa' w' => Dr W da0 sa0 da' sa' bs k w') W0 w (some (da, sa)) (some g)) (B : Int) :
    BoxD (((w.setCell ⟨g, 0, none⟩ (.int .i64 B)).setCell ⟨g, 1, none⟩ da).setCell ⟨g, 2, none⟩ sa) g B da sa ∧ W0.heap.size ≤ g ∧ Dr W0 da0 sa0 da sa bs k (((w.setCell ⟨g, 0, none⟩ (.int .i64 B)).setCell ⟨g, 1, none⟩ da).setCell ⟨g, 2, none⟩ sa) := by
  obtain ⟨hg, hbx⟩ := h.q g rfl
  have hD := h.a _ rfl
  have hk : ∀ j, j ≠ g → (((w.setCell ⟨g, 0, none⟩ (.int .i64 B)).setCell ⟨g, 1, none⟩ da).setCell ⟨g, 2, none⟩ sa).heap[j]? = w.heap[j]? := fun j hj =>
    (Below.heap_setCell _ _ _ _ hj).trans ((Below.heap_setCell _ _ _ _ hj).trans (Below.heap_setCell _ _ _ _ hj))
  refine ⟨hbx.all B da sa, hg, ((hD.bel.setCell hg _).setCell hg _).setCell hg _, ⟨hD.dv.by_.keep fun j hj => hk j fun e => ?_, hD.dv.sf.keep fun j hj => hk j fun e => ?_, hD.dv.le⟩, hD.new⟩
  · subst e; exact hD.dv.by_.not_box hbx hj
  · subst e; exact hD.dv.sf.not_box hbx hj
end

set_option maxRecDepth 100000 in
set_option maxHeartbeats 3200000 in
theorem step3 (a b : Int) (d : Pc) (w : World) (F : Nat → Prop) (pp B : Nat) (bs : List Nat) (k : Nat) (h : Pm w F pp B bs k) (code : Int) (B' : Nat) (bs' : List Nat) (k' : Nat)
    (hprog : ∀ W p v, Ar W p 0 v B bs k → Calls Try.prog 25 #[.pointer (some ⟨p, 0, none⟩), .int .i64 a] W fun e w' => e = .returned (.int .i64 code) ∧ Moved W p 0 v B' bs' k' w')
    (hdoc : ∀ W da sa, Dv W da sa bs k → Calls Try.prog 26 #[.agg #[.int .i64 (B : Int), da, sa], .int .i64 a] W fun e w' => ∃ da' sa', e = .returned (.tuple #[.agg #[.int .i64 (B' : Int), da', sa'], .int .i64 code]) ∧ Dr W da sa da' sa' bs' k' w') :
    Calls Try.prog 17 #[.pointer (some ⟨pp, 0, none⟩), valS ⟨3, a, b, d⟩] w fun e w' => Stepd w F pp B' bs' k' e w' := by
  obtain ⟨p, v, da, sa, hM⟩ := h
  have hq0 := BoxS.new w ⟨3, a, b, d⟩
  obtain ⟨xa, xc, zs⟩ := d
  obtain ⟨W0, hW0⟩ : ∃ W0, W0 = w.alloc (.cells #[.int .i64 3, .int .i64 a, .int .i64 b, .slice xa zs.length xc] 47) := ⟨_, rfl⟩
  simp only at hq0
  rw [← hW0] at hq0
  have hb0 : Below w.heap.size w W0 := by rw [hW0]; exact (Below.refl _ _).alloc (Nat.le_refl _) _
  have hM0 := hM.below hb0
  obtain ⟨⟨p0, p1, p2, p3⟩, _⟩ := hM0.cells
  obtain ⟨s0, s1, s2, s3⟩ := hq0.cells
  have hpl := hM.lt
  have hpf : ∀ j, Ft p v j → j < w.heap.size := hM.ar.inside
  have hb1' : Below W0.heap.size W0 W0.drew := (Below.refl _ _).drew
  have hM1 := hM0.below hb1'
  have hcr := hprog W0.drew p v hM1.ar
  have hs0 := hq0.lt
  have hbw1 := hb0.trans (hb1'.mono hb0.size)
  clear hM hprog
  show Calls Try.prog _ #[.pointer (some ⟨pp, 0, none⟩), .agg #[.int .i64 3, .int .i64 a, .int .i64 b, .slice xa zs.length xc]] w _
  go_enter Try.func17, Try.ntmps17
  go_wp2_with fail
  rw [← hW0]
  clear hW0
  refine wp_region_held_drew (S := (fun w' => w'.heap[pp]? = W0.heap[pp]? ∧ w'.heap[w.heap.size]? = W0.heap[w.heap.size]?)) (by kernel_rfl) ?_ (fun hHeld => ?_)
  · exact ⟨rfl, rfl⟩
  refine take_on (i := 0) (v := ?_) rfl rfl (by kernel_rfl) (by kernel_rfl) (by kernel_rfl) (fun _ _ _ h => h) rfl ?_ hHeld ?_
  rotate_left
  · (intro wq hSq; have q0 := (World.cell?_of_block (w := W0) (a := ⟨pp, 0, none⟩) hSq.1).trans p0; have q1 := (World.cell?_of_block (w := W0) (a := ⟨w.heap.size, 1, none⟩) hSq.2).trans s1; go_simp <;> first | with_reducible rfl | rfl)
  simp only [Act.put, List.setIfInBounds_toArray, List.set_cons_zero, List.set_cons_succ]
  refine take_on (i := 1) (v := ?_) rfl rfl (by kernel_rfl) (by kernel_rfl) (by kernel_rfl) (fun _ _ _ h => h) rfl ?_ hHeld ?_
  rotate_left
  · (intro wq hSq; have q0 := (World.cell?_of_block (w := W0) (a := ⟨pp, 0, none⟩) hSq.1).trans p0; have q1 := (World.cell?_of_block (w := W0) (a := ⟨w.heap.size, 1, none⟩) hSq.2).trans s1; go_simp <;> first | with_reducible rfl | rfl)
  simp only [Act.put, List.setIfInBounds_toArray, List.set_cons_zero, List.set_cons_succ]
  refine take_on (i := 2) (v := ?_) rfl rfl (by kernel_rfl) (by kernel_rfl) (by kernel_rfl) (fun _ _ _ h => h) rfl ?_ hHeld ?_
  rotate_left
  · (intro wq hSq; have q0 := (World.cell?_of_block (w := W0) (a := ⟨pp, 0, none⟩) hSq.1).trans p0; have q1 := (World.cell?_of_block (w := W0) (a := ⟨w.heap.size, 1, none⟩) hSq.2).trans s1; go_simp <;> first | with_reducible rfl | rfl)
  simp only [Act.put, List.setIfInBounds_toArray, List.set_cons_zero, List.set_cons_succ]
  refine take_on (i := 3) (v := ?_) rfl rfl (by kernel_rfl) (by kernel_rfl) (by kernel_rfl) (fun _ _ _ h => h) rfl ?_ hHeld ?_
  rotate_left
  · (intro wq hSq; have q0 := (World.cell?_of_block (w := W0) (a := ⟨pp, 0, none⟩) hSq.1).trans p0; have q1 := (World.cell?_of_block (w := W0) (a := ⟨w.heap.size, 1, none⟩) hSq.2).trans s1; go_simp <;> first | with_reducible rfl | rfl)
  simp only [Act.put, List.setIfInBounds_toArray, List.set_cons_zero, List.set_cons_succ]
  refine take_on (i := 4) (v := ?_) rfl rfl (by kernel_rfl) (by kernel_rfl) (by kernel_rfl) (fun _ _ _ h => h) rfl ?_ hHeld ?_
  rotate_left
  · (intro wq hSq; have q0 := (World.cell?_of_block (w := W0) (a := ⟨pp, 0, none⟩) hSq.1).trans p0; have q1 := (World.cell?_of_block (w := W0) (a := ⟨w.heap.size, 1, none⟩) hSq.2).trans s1; go_simp <;> first | with_reducible rfl | rfl)
  simp only [Act.put, List.setIfInBounds_toArray, List.set_cons_zero, List.set_cons_succ]
  refine take_on (i := 5) (v := ?_) rfl rfl (by kernel_rfl) (by kernel_rfl) (by kernel_rfl) (fun _ _ _ h => h) rfl ?_ hHeld ?_
  rotate_left
  · (intro wq hSq; have q0 := (World.cell?_of_block (w := W0) (a := ⟨pp, 0, none⟩) hSq.1).trans p0; have q1 := (World.cell?_of_block (w := W0) (a := ⟨w.heap.size, 1, none⟩) hSq.2).trans s1; go_simp <;> first | with_reducible rfl | rfl)
  simp only [Act.put, List.setIfInBounds_toArray, List.set_cons_zero, List.set_cons_succ]
  refine take_one (i := 6) rfl (by kernel_rfl) (fun K hK => ?_)
  go_simp
  refine hcr.mono ?_; rintro e y2 ⟨rfl, hm⟩
  try go_wp2_with fail
  refine hK.out _ _ ?_ (fun hHeld => ?_)
  · exact ⟨(hm.chg.block pp hM1.lt hM1.sep1), (hm.chg.block w.heap.size hs0 (fun h4 => by have := hpf _ h4; omega))⟩
  clear hK K
  try simp only [Act.put, List.setIfInBounds_toArray, List.set_cons_zero, List.set_cons_succ]
  refine take_on (i := 7) (v := ?_) rfl rfl (by kernel_rfl) (by kernel_rfl) (by kernel_rfl) (fun _ _ _ h => h) rfl ?_ hHeld ?_
  rotate_left
  · (intro wq hSq; have q0 := (World.cell?_of_block (w := W0) (a := ⟨pp, 0, none⟩) hSq.1).trans p0; have q1 := (World.cell?_of_block (w := W0) (a := ⟨w.heap.size, 1, none⟩) hSq.2).trans s1; go_simp <;> first | with_reducible rfl | rfl)
  simp only [Act.put, List.setIfInBounds_toArray, List.set_cons_zero, List.set_cons_succ]
  refine wpAnyH_done (by kernel_rfl) ?_ _
  obtain ⟨v1, hM2⟩ := hM1.prog hm
  have hqb : BoxS y2 w.heap.size ⟨3, a, b, ⟨xa, xc, zs⟩⟩ := hHeld.2.trans hq0
  have hsy : w.heap.size < y2.heap.size := hqb.lt
  have hpy := hM2.lt
  obtain ⟨⟨q0, q1, q2, q3⟩, _⟩ := hM2.cells
  obtain ⟨t0, t1, t2, t3⟩ := hqb.cells
  have hLk := (Lk.start (R := fun W da' sa' w' => Dr W da sa da' sa' bs' k' w') y2).drew
  obtain ⟨a1, c1, a2, c2, hda, hsa, _⟩ := hM2.dv.open
  subst hda
  subst hsa
  have hdvs := hM2.dv
  clear hcr p0 p1 p2 p3 s0 s1 s2 s3 hHeld hq0
  go_wp2_with fail
  go_cut [8, 9] from 76 to 85 (fun x e wc => ∃ g da' sa', x = .pointer (some ⟨g, 0, none⟩) ∧ e = .int .i64 code ∧ Hid (BoxD wc g (B' : Int) da' sa' ∧ y2.heap.size ≤ g ∧ Dr y2 (.slice a1 bs.length c1) (.slice a2 bs.length c2) da' sa' bs' k' wc))
  case first =>
    refine wp_region_held_drew (S := (fun w' => Below y2.heap.size y2 w')) (by kernel_rfl) ?_ (fun hHeld => ?_)
    · exact (Below.refl _ _).drew
    refine take_on (i := 0) (v := ?_) rfl rfl (by kernel_rfl) (by kernel_rfl) (by kernel_rfl) (fun _ _ _ h => h) rfl ?_ hHeld ?_
    rotate_left
    · (intro wq hSq; have u0 := (World.cell?_of_block (w := y2) (a := ⟨pp, 1, none⟩) (hSq.block pp hpy)).trans q1; have u1 := (World.cell?_of_block (w := y2) (a := ⟨pp, 2, none⟩) (hSq.block pp hpy)).trans q2; have u2 := (World.cell?_of_block (w := y2) (a := ⟨pp, 3, none⟩) (hSq.block pp hpy)).trans q3; have u3 := (World.cell?_of_block (w := y2) (a := ⟨w.heap.size, 1, none⟩) (hSq.block w.heap.size hsy)).trans t1; go_simp <;> first | with_reducible rfl | rfl)
    simp only [Act.put, List.setIfInBounds_toArray, List.set_cons_zero, List.set_cons_succ]
    refine take_on (i := 1) (v := ?_) rfl rfl (by kernel_rfl) (by kernel_rfl) (by kernel_rfl) (fun _ _ _ h => h) rfl ?_ hHeld ?_
    rotate_left
    · (intro wq hSq; have u0 := (World.cell?_of_block (w := y2) (a := ⟨pp, 1, none⟩) (hSq.block pp hpy)).trans q1; have u1 := (World.cell?_of_block (w := y2) (a := ⟨pp, 2, none⟩) (hSq.block pp hpy)).trans q2; have u2 := (World.cell?_of_block (w := y2) (a := ⟨pp, 3, none⟩) (hSq.block pp hpy)).trans q3; have u3 := (World.cell?_of_block (w := y2) (a := ⟨w.heap.size, 1, none⟩) (hSq.block w.heap.size hsy)).trans t1; go_simp <;> first | with_reducible rfl | rfl)
    simp only [Act.put, List.setIfInBounds_toArray, List.set_cons_zero, List.set_cons_succ]
    refine take_on (i := 2) (v := ?_) rfl rfl (by kernel_rfl) (by kernel_rfl) (by kernel_rfl) (fun _ _ _ h => h) rfl ?_ hHeld ?_
    rotate_left
    · (intro wq hSq; have u0 := (World.cell?_of_block (w := y2) (a := ⟨pp, 1, none⟩) (hSq.block pp hpy)).trans q1; have u1 := (World.cell?_of_block (w := y2) (a := ⟨pp, 2, none⟩) (hSq.block pp hpy)).trans q2; have u2 := (World.cell?_of_block (w := y2) (a := ⟨pp, 3, none⟩) (hSq.block pp hpy)).trans q3; have u3 := (World.cell?_of_block (w := y2) (a := ⟨w.heap.size, 1, none⟩) (hSq.block w.heap.size hsy)).trans t1; go_simp <;> first | with_reducible rfl | rfl)
    simp only [Act.put, List.setIfInBounds_toArray, List.set_cons_zero, List.set_cons_succ]
    refine take_on (i := 3) (v := ?_) rfl rfl (by kernel_rfl) (by kernel_rfl) (by kernel_rfl) (fun _ _ _ h => h) rfl ?_ hHeld ?_
    rotate_left
    · (intro wq hSq; have u0 := (World.cell?_of_block (w := y2) (a := ⟨pp, 1, none⟩) (hSq.block pp hpy)).trans q1; have u1 := (World.cell?_of_block (w := y2) (a := ⟨pp, 2, none⟩) (hSq.block pp hpy)).trans q2; have u2 := (World.cell?_of_block (w := y2) (a := ⟨pp, 3, none⟩) (hSq.block pp hpy)).trans q3; have u3 := (World.cell?_of_block (w := y2) (a := ⟨w.heap.size, 1, none⟩) (hSq.block w.heap.size hsy)).trans t1; go_simp <;> first | with_reducible rfl | rfl)
    simp only [Act.put, List.setIfInBounds_toArray, List.set_cons_zero, List.set_cons_succ]
    refine take_on (i := 4) (v := ?_) rfl rfl (by kernel_rfl) (by kernel_rfl) (by kernel_rfl) (fun _ _ _ h => h) rfl ?_ hHeld ?_
    rotate_left
    · (intro wq hSq; have u0 := (World.cell?_of_block (w := y2) (a := ⟨pp, 1, none⟩) (hSq.block pp hpy)).trans q1; have u1 := (World.cell?_of_block (w := y2) (a := ⟨pp, 2, none⟩) (hSq.block pp hpy)).trans q2; have u2 := (World.cell?_of_block (w := y2) (a := ⟨pp, 3, none⟩) (hSq.block pp hpy)).trans q3; have u3 := (World.cell?_of_block (w := y2) (a := ⟨w.heap.size, 1, none⟩) (hSq.block w.heap.size hsy)).trans t1; go_simp <;> first | with_reducible rfl | rfl)
    simp only [Act.put, List.setIfInBounds_toArray, List.set_cons_zero, List.set_cons_succ]
    refine take_on (i := 5) (v := ?_) rfl rfl (by kernel_rfl) (by kernel_rfl) (by kernel_rfl) (fun _ _ _ h => h) rfl ?_ hHeld ?_
    rotate_left
    · (intro wq hSq; have u0 := (World.cell?_of_block (w := y2) (a := ⟨pp, 1, none⟩) (hSq.block pp hpy)).trans q1; have u1 := (World.cell?_of_block (w := y2) (a := ⟨pp, 2, none⟩) (hSq.block pp hpy)).trans q2; have u2 := (World.cell?_of_block (w := y2) (a := ⟨pp, 3, none⟩) (hSq.block pp hpy)).trans q3; have u3 := (World.cell?_of_block (w := y2) (a := ⟨w.heap.size, 1, none⟩) (hSq.block w.heap.size hsy)).trans t1; go_simp <;> first | with_reducible rfl | rfl)
    simp only [Act.put, List.setIfInBounds_toArray, List.set_cons_zero, List.set_cons_succ]
    refine take_two (i := 6) (j := 10) rfl rfl (by kernel_rfl) (fun K hK => ?_) (fun K hK => ?_)
    · go_simp
      refine (hdoc _ _ _ (hdvs.below hHeld)).mono ?_
      rintro e y3 ⟨da', sa', rfl, hD⟩
      replace hLk := hLk.call hHeld hD
      obtain ⟨d1, d2, e1, e2, rfl, rfl, _⟩ := hD.dv.open
      go_wp2_with fail
      refine hK.out _ _ ?_ (fun hHeld => ?_)
      · exact hLk.bel
      clear hK K
      try simp only [Act.put, List.setIfInBounds_toArray, List.set_cons_zero, List.set_cons_succ]
      refine take_on (i := 7) (v := ?_) rfl rfl (by kernel_rfl) (by kernel_rfl) (by kernel_rfl) (fun _ _ _ h => h) rfl ?_ hHeld ?_
      rotate_left
      · (intro wq hSq; have u0 := (World.cell?_of_block (w := y2) (a := ⟨pp, 1, none⟩) (hSq.block pp hpy)).trans q1; have u1 := (World.cell?_of_block (w := y2) (a := ⟨pp, 2, none⟩) (hSq.block pp hpy)).trans q2; have u2 := (World.cell?_of_block (w := y2) (a := ⟨pp, 3, none⟩) (hSq.block pp hpy)).trans q3; have u3 := (World.cell?_of_block (w := y2) (a := ⟨w.heap.size, 1, none⟩) (hSq.block w.heap.size hsy)).trans t1; go_simp <;> first | with_reducible rfl | rfl)
      simp only [Act.put, List.setIfInBounds_toArray, List.set_cons_zero, List.set_cons_succ]
      refine take_on (i := 8) (v := ?_) rfl rfl (by kernel_rfl) (by kernel_rfl) (by kernel_rfl) (fun _ _ _ h => h) rfl ?_ hHeld ?_
      rotate_left
      · (intro wq hSq; have u0 := (World.cell?_of_block (w := y2) (a := ⟨pp, 1, none⟩) (hSq.block pp hpy)).trans q1; have u1 := (World.cell?_of_block (w := y2) (a := ⟨pp, 2, none⟩) (hSq.block pp hpy)).trans q2; have u2 := (World.cell?_of_block (w := y2) (a := ⟨pp, 3, none⟩) (hSq.block pp hpy)).trans q3; have u3 := (World.cell?_of_block (w := y2) (a := ⟨w.heap.size, 1, none⟩) (hSq.block w.heap.size hsy)).trans t1; go_simp <;> first | with_reducible rfl | rfl)
      simp only [Act.put, List.setIfInBounds_toArray, List.set_cons_zero, List.set_cons_succ]
      refine take_on (i := 9) (v := ?_) rfl rfl (by kernel_rfl) (by kernel_rfl) (by kernel_rfl) (fun _ _ _ h => h) rfl ?_ hHeld ?_
      rotate_left
      · (intro wq hSq; have u0 := (World.cell?_of_block (w := y2) (a := ⟨pp, 1, none⟩) (hSq.block pp hpy)).trans q1; have u1 := (World.cell?_of_block (w := y2) (a := ⟨pp, 2, none⟩) (hSq.block pp hpy)).trans q2; have u2 := (World.cell?_of_block (w := y2) (a := ⟨pp, 3, none⟩) (hSq.block pp hpy)).trans q3; have u3 := (World.cell?_of_block (w := y2) (a := ⟨w.heap.size, 1, none⟩) (hSq.block w.heap.size hsy)).trans t1; go_simp <;> first | with_reducible rfl | rfl)
      simp only [Act.put, List.setIfInBounds_toArray, List.set_cons_zero, List.set_cons_succ]
      refine take_one (i := 10) rfl (by kernel_rfl) (fun K hK => ?_)
      · obtain ⟨yA, eA, hLk⟩ := hLk.box
        go_simp
        first | rw [← eA] | rw [show (y2.alloc (.cells #[.int .i64 0, .slice none 0 0, .slice none 0 0] 52)).drew = yA from eA.symm]
        clear eA
        try change Lk _ y2 yA none (some y2.heap.size) at hLk
        refine hK.out _ _ ?_ (fun hHeld => ?_)
        · exact hLk.bel
        clear hK K
        try simp only [Act.put, List.setIfInBounds_toArray, List.set_cons_zero, List.set_cons_succ]
        refine take_one (i := 11) rfl (by kernel_rfl) (fun K hK => ?_)
        obtain ⟨g1, g2⟩ := hLk.q _ rfl
        obtain ⟨y0, y1, y2', z0, z1, z2⟩ := g2.cells
        have hfi := hLk.fin (B' : Int)
        go_simp
        refine hK.out _ _ ?_ (fun hHeld => ?_)
        · exact hfi.2.2.bel
        clear hK K
        try simp only [Act.put, List.setIfInBounds_toArray, List.set_cons_zero, List.set_cons_succ]
        refine take_on (i := 12) (v := ?_) rfl rfl (by kernel_rfl) (by kernel_rfl) (by kernel_rfl) (fun _ _ _ h => h) rfl ?_ hHeld ?_
        rotate_left
        · (intro wq hSq; have u0 := (World.cell?_of_block (w := y2) (a := ⟨pp, 1, none⟩) (hSq.block pp hpy)).trans q1; have u1 := (World.cell?_of_block (w := y2) (a := ⟨pp, 2, none⟩) (hSq.block pp hpy)).trans q2; have u2 := (World.cell?_of_block (w := y2) (a := ⟨pp, 3, none⟩) (hSq.block pp hpy)).trans q3; have u3 := (World.cell?_of_block (w := y2) (a := ⟨w.heap.size, 1, none⟩) (hSq.block w.heap.size hsy)).trans t1; go_simp <;> first | with_reducible rfl | rfl)
        simp only [Act.put, List.setIfInBounds_toArray, List.set_cons_zero, List.set_cons_succ]
        refine wpAnyH_done (by kernel_rfl) ?_ _
        try go_wp2_with fail
        go_meet
        case rel => exact ⟨_, _, _, rfl, rfl, hide_it hfi⟩
    · obtain ⟨yA, eA, hLk⟩ := hLk.box
      go_simp
      first | rw [← eA] | rw [show (y2.alloc (.cells #[.int .i64 0, .slice none 0 0, .slice none 0 0] 52)).drew = yA from eA.symm]
      clear eA
      try change Lk _ y2 yA none (some y2.heap.size) at hLk
      refine hK.out _ _ ?_ (fun hHeld => ?_)
      · exact hLk.bel
      clear hK K
      try simp only [Act.put, List.setIfInBounds_toArray, List.set_cons_zero, List.set_cons_succ]
      refine take_one (i := 6) rfl (by kernel_rfl) (fun K hK => ?_)
      · go_simp
        refine (hdoc _ _ _ (hdvs.below hHeld)).mono ?_
        rintro e y3 ⟨da', sa', rfl, hD⟩
        replace hLk := hLk.call hHeld hD
        obtain ⟨d1, d2, e1, e2, rfl, rfl, _⟩ := hD.dv.open
        go_wp2_with fail
        refine hK.out _ _ ?_ (fun hHeld => ?_)
        · exact hLk.bel
        clear hK K
        try simp only [Act.put, List.setIfInBounds_toArray, List.set_cons_zero, List.set_cons_succ]
        refine take_on (i := 7) (v := ?_) rfl rfl (by kernel_rfl) (by kernel_rfl) (by kernel_rfl) (fun _ _ _ h => h) rfl ?_ hHeld ?_
        rotate_left
        · (intro wq hSq; have u0 := (World.cell?_of_block (w := y2) (a := ⟨pp, 1, none⟩) (hSq.block pp hpy)).trans q1; have u1 := (World.cell?_of_block (w := y2) (a := ⟨pp, 2, none⟩) (hSq.block pp hpy)).trans q2; have u2 := (World.cell?_of_block (w := y2) (a := ⟨pp, 3, none⟩) (hSq.block pp hpy)).trans q3; have u3 := (World.cell?_of_block (w := y2) (a := ⟨w.heap.size, 1, none⟩) (hSq.block w.heap.size hsy)).trans t1; go_simp <;> first | with_reducible rfl | rfl)
        simp only [Act.put, List.setIfInBounds_toArray, List.set_cons_zero, List.set_cons_succ]
        refine take_on (i := 8) (v := ?_) rfl rfl (by kernel_rfl) (by kernel_rfl) (by kernel_rfl) (fun _ _ _ h => h) rfl ?_ hHeld ?_
        rotate_left
        · (intro wq hSq; have u0 := (World.cell?_of_block (w := y2) (a := ⟨pp, 1, none⟩) (hSq.block pp hpy)).trans q1; have u1 := (World.cell?_of_block (w := y2) (a := ⟨pp, 2, none⟩) (hSq.block pp hpy)).trans q2; have u2 := (World.cell?_of_block (w := y2) (a := ⟨pp, 3, none⟩) (hSq.block pp hpy)).trans q3; have u3 := (World.cell?_of_block (w := y2) (a := ⟨w.heap.size, 1, none⟩) (hSq.block w.heap.size hsy)).trans t1; go_simp <;> first | with_reducible rfl | rfl)
        simp only [Act.put, List.setIfInBounds_toArray, List.set_cons_zero, List.set_cons_succ]
        refine take_on (i := 9) (v := ?_) rfl rfl (by kernel_rfl) (by kernel_rfl) (by kernel_rfl) (fun _ _ _ h => h) rfl ?_ hHeld ?_
        rotate_left
        · (intro wq hSq; have u0 := (World.cell?_of_block (w := y2) (a := ⟨pp, 1, none⟩) (hSq.block pp hpy)).trans q1; have u1 := (World.cell?_of_block (w := y2) (a := ⟨pp, 2, none⟩) (hSq.block pp hpy)).trans q2; have u2 := (World.cell?_of_block (w := y2) (a := ⟨pp, 3, none⟩) (hSq.block pp hpy)).trans q3; have u3 := (World.cell?_of_block (w := y2) (a := ⟨w.heap.size, 1, none⟩) (hSq.block w.heap.size hsy)).trans t1; go_simp <;> first | with_reducible rfl | rfl)
        simp only [Act.put, List.setIfInBounds_toArray, List.set_cons_zero, List.set_cons_succ]
        refine take_one (i := 11) rfl (by kernel_rfl) (fun K hK => ?_)
        obtain ⟨g1, g2⟩ := hLk.q _ rfl
        obtain ⟨y0, y1, y2', z0, z1, z2⟩ := g2.cells
        have hfi := hLk.fin (B' : Int)
        go_simp
        refine hK.out _ _ ?_ (fun hHeld => ?_)
        · exact hfi.2.2.bel
        clear hK K
        try simp only [Act.put, List.setIfInBounds_toArray, List.set_cons_zero, List.set_cons_succ]
        refine take_on (i := 12) (v := ?_) rfl rfl (by kernel_rfl) (by kernel_rfl) (by kernel_rfl) (fun _ _ _ h => h) rfl ?_ hHeld ?_
        rotate_left
        · (intro wq hSq; have u0 := (World.cell?_of_block (w := y2) (a := ⟨pp, 1, none⟩) (hSq.block pp hpy)).trans q1; have u1 := (World.cell?_of_block (w := y2) (a := ⟨pp, 2, none⟩) (hSq.block pp hpy)).trans q2; have u2 := (World.cell?_of_block (w := y2) (a := ⟨pp, 3, none⟩) (hSq.block pp hpy)).trans q3; have u3 := (World.cell?_of_block (w := y2) (a := ⟨w.heap.size, 1, none⟩) (hSq.block w.heap.size hsy)).trans t1; go_simp <;> first | with_reducible rfl | rfl)
        simp only [Act.put, List.setIfInBounds_toArray, List.set_cons_zero, List.set_cons_succ]
        refine wpAnyH_done (by kernel_rfl) ?_ _
        try go_wp2_with fail
        go_meet
        case rel => exact ⟨_, _, _, rfl, rfl, hide_it hfi⟩
  case rest =>
    obtain ⟨g, da', sa', rfl, rfl, hcc⟩ := hcut
    obtain ⟨hbx, hgl, hD⟩ := hcc.out
    obtain ⟨d1, d2, e1, e2, rfl, rfl, _⟩ := hD.dv.open
    obtain ⟨⟨r0, r1, r2, r3⟩, f0, f1, f2, f3⟩ := (hM2.below hD.bel).cells
    obtain ⟨x0, x1, x2, _⟩ := hbx.cells
    have hfin := two_docs hbw1 hM1 hm hM2 hD
    clear hD hM2 hM1 hM0 hm q0 q1 q2 q3 hcc hbx hdoc hdvs hLk t0 t1 t2 t3
    go_wp2_with fail
    go_ret
    exact hfin

set_option maxRecDepth 100000 in
set_option maxHeartbeats 3200000 in
theorem step4 (a b : Int) (d : Pc) (w : World) (F : Nat → Prop) (pp B : Nat) (bs : List Nat) (k : Nat) (h : Pm w F pp B bs k) (code : Int) (B' : Nat) (bs' : List Nat) (k' : Nat)
    (hprog : ∀ W p v, Ar W p 0 v B bs k → Calls Try.prog 19 #[.pointer (some ⟨p, 0, none⟩), .int .i64 a] W fun e w' => e = .returned (.int .i64 code) ∧ Moved W p 0 v B' bs' k' w')
    (hdoc : ∀ W da sa, Dv W da sa bs k → Calls Try.prog 27 #[.agg #[.int .i64 (B : Int), da, sa], .int .i64 a] W fun e w' => ∃ da' sa', e = .returned (.tuple #[.agg #[.int .i64 (B' : Int), da', sa'], .int .i64 code]) ∧ Dr W da sa da' sa' bs' k' w') :
    Calls Try.prog 17 #[.pointer (some ⟨pp, 0, none⟩), valS ⟨4, a, b, d⟩] w fun e w' => Stepd w F pp B' bs' k' e w' := by
  obtain ⟨p, v, da, sa, hM⟩ := h
  have hq0 := BoxS.new w ⟨4, a, b, d⟩
  obtain ⟨xa, xc, zs⟩ := d
  obtain ⟨W0, hW0⟩ : ∃ W0, W0 = w.alloc (.cells #[.int .i64 4, .int .i64 a, .int .i64 b, .slice xa zs.length xc] 47) := ⟨_, rfl⟩
  simp only at hq0
  rw [← hW0] at hq0
  have hb0 : Below w.heap.size w W0 := by rw [hW0]; exact (Below.refl _ _).alloc (Nat.le_refl _) _
  have hM0 := hM.below hb0
  obtain ⟨⟨p0, p1, p2, p3⟩, _⟩ := hM0.cells
  obtain ⟨s0, s1, s2, s3⟩ := hq0.cells
  have hpl := hM.lt
  have hpf : ∀ j, Ft p v j → j < w.heap.size := hM.ar.inside
  have hb1' : Below W0.heap.size W0 W0.drew := (Below.refl _ _).drew
  have hM1 := hM0.below hb1'
  have hcr := hprog W0.drew p v hM1.ar
  have hs0 := hq0.lt
  have hbw1 := hb0.trans (hb1'.mono hb0.size)
  clear hM hprog
  show Calls Try.prog _ #[.pointer (some ⟨pp, 0, none⟩), .agg #[.int .i64 4, .int .i64 a, .int .i64 b, .slice xa zs.length xc]] w _
  go_enter Try.func17, Try.ntmps17
  go_wp2_with fail
  rw [← hW0]
  clear hW0
  refine wp_region_held_drew (S := (fun w' => w'.heap[pp]? = W0.heap[pp]? ∧ w'.heap[w.heap.size]? = W0.heap[w.heap.size]?)) (by kernel_rfl) ?_ (fun hHeld => ?_)
  · exact ⟨rfl, rfl⟩
  refine take_on (i := 0) (v := ?_) rfl rfl (by kernel_rfl) (by kernel_rfl) (by kernel_rfl) (fun _ _ _ h => h) rfl ?_ hHeld ?_
  rotate_left
  · (intro wq hSq; have q0 := (World.cell?_of_block (w := W0) (a := ⟨pp, 0, none⟩) hSq.1).trans p0; have q1 := (World.cell?_of_block (w := W0) (a := ⟨w.heap.size, 1, none⟩) hSq.2).trans s1; go_simp <;> first | with_reducible rfl | rfl)
  simp only [Act.put, List.setIfInBounds_toArray, List.set_cons_zero, List.set_cons_succ]
  refine take_on (i := 1) (v := ?_) rfl rfl (by kernel_rfl) (by kernel_rfl) (by kernel_rfl) (fun _ _ _ h => h) rfl ?_ hHeld ?_
  rotate_left
  · (intro wq hSq; have q0 := (World.cell?_of_block (w := W0) (a := ⟨pp, 0, none⟩) hSq.1).trans p0; have q1 := (World.cell?_of_block (w := W0) (a := ⟨w.heap.size, 1, none⟩) hSq.2).trans s1; go_simp <;> first | with_reducible rfl | rfl)
  simp only [Act.put, List.setIfInBounds_toArray, List.set_cons_zero, List.set_cons_succ]
  refine take_on (i := 2) (v := ?_) rfl rfl (by kernel_rfl) (by kernel_rfl) (by kernel_rfl) (fun _ _ _ h => h) rfl ?_ hHeld ?_
  rotate_left
  · (intro wq hSq; have q0 := (World.cell?_of_block (w := W0) (a := ⟨pp, 0, none⟩) hSq.1).trans p0; have q1 := (World.cell?_of_block (w := W0) (a := ⟨w.heap.size, 1, none⟩) hSq.2).trans s1; go_simp <;> first | with_reducible rfl | rfl)
  simp only [Act.put, List.setIfInBounds_toArray, List.set_cons_zero, List.set_cons_succ]
  refine take_on (i := 3) (v := ?_) rfl rfl (by kernel_rfl) (by kernel_rfl) (by kernel_rfl) (fun _ _ _ h => h) rfl ?_ hHeld ?_
  rotate_left
  · (intro wq hSq; have q0 := (World.cell?_of_block (w := W0) (a := ⟨pp, 0, none⟩) hSq.1).trans p0; have q1 := (World.cell?_of_block (w := W0) (a := ⟨w.heap.size, 1, none⟩) hSq.2).trans s1; go_simp <;> first | with_reducible rfl | rfl)
  simp only [Act.put, List.setIfInBounds_toArray, List.set_cons_zero, List.set_cons_succ]
  refine take_on (i := 4) (v := ?_) rfl rfl (by kernel_rfl) (by kernel_rfl) (by kernel_rfl) (fun _ _ _ h => h) rfl ?_ hHeld ?_
  rotate_left
  · (intro wq hSq; have q0 := (World.cell?_of_block (w := W0) (a := ⟨pp, 0, none⟩) hSq.1).trans p0; have q1 := (World.cell?_of_block (w := W0) (a := ⟨w.heap.size, 1, none⟩) hSq.2).trans s1; go_simp <;> first | with_reducible rfl | rfl)
  simp only [Act.put, List.setIfInBounds_toArray, List.set_cons_zero, List.set_cons_succ]
  refine take_on (i := 5) (v := ?_) rfl rfl (by kernel_rfl) (by kernel_rfl) (by kernel_rfl) (fun _ _ _ h => h) rfl ?_ hHeld ?_
  rotate_left
  · (intro wq hSq; have q0 := (World.cell?_of_block (w := W0) (a := ⟨pp, 0, none⟩) hSq.1).trans p0; have q1 := (World.cell?_of_block (w := W0) (a := ⟨w.heap.size, 1, none⟩) hSq.2).trans s1; go_simp <;> first | with_reducible rfl | rfl)
  simp only [Act.put, List.setIfInBounds_toArray, List.set_cons_zero, List.set_cons_succ]
  refine take_one (i := 6) rfl (by kernel_rfl) (fun K hK => ?_)
  go_simp
  refine hcr.mono ?_; rintro e y2 ⟨rfl, hm⟩
  try go_wp2_with fail
  refine hK.out _ _ ?_ (fun hHeld => ?_)
  · exact ⟨(hm.chg.block pp hM1.lt hM1.sep1), (hm.chg.block w.heap.size hs0 (fun h4 => by have := hpf _ h4; omega))⟩
  clear hK K
  try simp only [Act.put, List.setIfInBounds_toArray, List.set_cons_zero, List.set_cons_succ]
  refine take_on (i := 7) (v := ?_) rfl rfl (by kernel_rfl) (by kernel_rfl) (by kernel_rfl) (fun _ _ _ h => h) rfl ?_ hHeld ?_
  rotate_left
  · (intro wq hSq; have q0 := (World.cell?_of_block (w := W0) (a := ⟨pp, 0, none⟩) hSq.1).trans p0; have q1 := (World.cell?_of_block (w := W0) (a := ⟨w.heap.size, 1, none⟩) hSq.2).trans s1; go_simp <;> first | with_reducible rfl | rfl)
  simp only [Act.put, List.setIfInBounds_toArray, List.set_cons_zero, List.set_cons_succ]
  refine wpAnyH_done (by kernel_rfl) ?_ _
  obtain ⟨v1, hM2⟩ := hM1.prog hm
  have hqb : BoxS y2 w.heap.size ⟨4, a, b, ⟨xa, xc, zs⟩⟩ := hHeld.2.trans hq0
  have hsy : w.heap.size < y2.heap.size := hqb.lt
  have hpy := hM2.lt
  obtain ⟨⟨q0, q1, q2, q3⟩, _⟩ := hM2.cells
  obtain ⟨t0, t1, t2, t3⟩ := hqb.cells
  have hLk := (Lk.start (R := fun W da' sa' w' => Dr W da sa da' sa' bs' k' w') y2).drew
  obtain ⟨a1, c1, a2, c2, hda, hsa, _⟩ := hM2.dv.open
  subst hda
  subst hsa
  have hdvs := hM2.dv
  clear hcr p0 p1 p2 p3 s0 s1 s2 s3 hHeld hq0
  go_wp2_with fail
  go_cut [11, 12] from 102 to 111 (fun x e wc => ∃ g da' sa', x = .pointer (some ⟨g, 0, none⟩) ∧ e = .int .i64 code ∧ Hid (BoxD wc g (B' : Int) da' sa' ∧ y2.heap.size ≤ g ∧ Dr y2 (.slice a1 bs.length c1) (.slice a2 bs.length c2) da' sa' bs' k' wc))
  case first =>
    refine wp_region_held_drew (S := (fun w' => Below y2.heap.size y2 w')) (by kernel_rfl) ?_ (fun hHeld => ?_)
    · exact (Below.refl _ _).drew
    refine take_on (i := 0) (v := ?_) rfl rfl (by kernel_rfl) (by kernel_rfl) (by kernel_rfl) (fun _ _ _ h => h) rfl ?_ hHeld ?_
    rotate_left
    · (intro wq hSq; have u0 := (World.cell?_of_block (w := y2) (a := ⟨pp, 1, none⟩) (hSq.block pp hpy)).trans q1; have u1 := (World.cell?_of_block (w := y2) (a := ⟨pp, 2, none⟩) (hSq.block pp hpy)).trans q2; have u2 := (World.cell?_of_block (w := y2) (a := ⟨pp, 3, none⟩) (hSq.block pp hpy)).trans q3; have u3 := (World.cell?_of_block (w := y2) (a := ⟨w.heap.size, 1, none⟩) (hSq.block w.heap.size hsy)).trans t1; go_simp <;> first | with_reducible rfl | rfl)
    simp only [Act.put, List.setIfInBounds_toArray, List.set_cons_zero, List.set_cons_succ]
    refine take_on (i := 1) (v := ?_) rfl rfl (by kernel_rfl) (by kernel_rfl) (by kernel_rfl) (fun _ _ _ h => h) rfl ?_ hHeld ?_
    rotate_left
    · (intro wq hSq; have u0 := (World.cell?_of_block (w := y2) (a := ⟨pp, 1, none⟩) (hSq.block pp hpy)).trans q1; have u1 := (World.cell?_of_block (w := y2) (a := ⟨pp, 2, none⟩) (hSq.block pp hpy)).trans q2; have u2 := (World.cell?_of_block (w := y2) (a := ⟨pp, 3, none⟩) (hSq.block pp hpy)).trans q3; have u3 := (World.cell?_of_block (w := y2) (a := ⟨w.heap.size, 1, none⟩) (hSq.block w.heap.size hsy)).trans t1; go_simp <;> first | with_reducible rfl | rfl)
    simp only [Act.put, List.setIfInBounds_toArray, List.set_cons_zero, List.set_cons_succ]
    refine take_on (i := 2) (v := ?_) rfl rfl (by kernel_rfl) (by kernel_rfl) (by kernel_rfl) (fun _ _ _ h => h) rfl ?_ hHeld ?_
    rotate_left
    · (intro wq hSq; have u0 := (World.cell?_of_block (w := y2) (a := ⟨pp, 1, none⟩) (hSq.block pp hpy)).trans q1; have u1 := (World.cell?_of_block (w := y2) (a := ⟨pp, 2, none⟩) (hSq.block pp hpy)).trans q2; have u2 := (World.cell?_of_block (w := y2) (a := ⟨pp, 3, none⟩) (hSq.block pp hpy)).trans q3; have u3 := (World.cell?_of_block (w := y2) (a := ⟨w.heap.size, 1, none⟩) (hSq.block w.heap.size hsy)).trans t1; go_simp <;> first | with_reducible rfl | rfl)
    simp only [Act.put, List.setIfInBounds_toArray, List.set_cons_zero, List.set_cons_succ]
    refine take_on (i := 3) (v := ?_) rfl rfl (by kernel_rfl) (by kernel_rfl) (by kernel_rfl) (fun _ _ _ h => h) rfl ?_ hHeld ?_
    rotate_left
    · (intro wq hSq; have u0 := (World.cell?_of_block (w := y2) (a := ⟨pp, 1, none⟩) (hSq.block pp hpy)).trans q1; have u1 := (World.cell?_of_block (w := y2) (a := ⟨pp, 2, none⟩) (hSq.block pp hpy)).trans q2; have u2 := (World.cell?_of_block (w := y2) (a := ⟨pp, 3, none⟩) (hSq.block pp hpy)).trans q3; have u3 := (World.cell?_of_block (w := y2) (a := ⟨w.heap.size, 1, none⟩) (hSq.block w.heap.size hsy)).trans t1; go_simp <;> first | with_reducible rfl | rfl)
    simp only [Act.put, List.setIfInBounds_toArray, List.set_cons_zero, List.set_cons_succ]
    refine take_on (i := 4) (v := ?_) rfl rfl (by kernel_rfl) (by kernel_rfl) (by kernel_rfl) (fun _ _ _ h => h) rfl ?_ hHeld ?_
    rotate_left
    · (intro wq hSq; have u0 := (World.cell?_of_block (w := y2) (a := ⟨pp, 1, none⟩) (hSq.block pp hpy)).trans q1; have u1 := (World.cell?_of_block (w := y2) (a := ⟨pp, 2, none⟩) (hSq.block pp hpy)).trans q2; have u2 := (World.cell?_of_block (w := y2) (a := ⟨pp, 3, none⟩) (hSq.block pp hpy)).trans q3; have u3 := (World.cell?_of_block (w := y2) (a := ⟨w.heap.size, 1, none⟩) (hSq.block w.heap.size hsy)).trans t1; go_simp <;> first | with_reducible rfl | rfl)
    simp only [Act.put, List.setIfInBounds_toArray, List.set_cons_zero, List.set_cons_succ]
    refine take_on (i := 5) (v := ?_) rfl rfl (by kernel_rfl) (by kernel_rfl) (by kernel_rfl) (fun _ _ _ h => h) rfl ?_ hHeld ?_
    rotate_left
    · (intro wq hSq; have u0 := (World.cell?_of_block (w := y2) (a := ⟨pp, 1, none⟩) (hSq.block pp hpy)).trans q1; have u1 := (World.cell?_of_block (w := y2) (a := ⟨pp, 2, none⟩) (hSq.block pp hpy)).trans q2; have u2 := (World.cell?_of_block (w := y2) (a := ⟨pp, 3, none⟩) (hSq.block pp hpy)).trans q3; have u3 := (World.cell?_of_block (w := y2) (a := ⟨w.heap.size, 1, none⟩) (hSq.block w.heap.size hsy)).trans t1; go_simp <;> first | with_reducible rfl | rfl)
    simp only [Act.put, List.setIfInBounds_toArray, List.set_cons_zero, List.set_cons_succ]
    refine take_two (i := 6) (j := 10) rfl rfl (by kernel_rfl) (fun K hK => ?_) (fun K hK => ?_)
    · go_simp
      refine (hdoc _ _ _ (hdvs.below hHeld)).mono ?_
      rintro e y3 ⟨da', sa', rfl, hD⟩
      replace hLk := hLk.call hHeld hD
      obtain ⟨d1, d2, e1, e2, rfl, rfl, _⟩ := hD.dv.open
      go_wp2_with fail
      refine hK.out _ _ ?_ (fun hHeld => ?_)
      · exact hLk.bel
      clear hK K
      try simp only [Act.put, List.setIfInBounds_toArray, List.set_cons_zero, List.set_cons_succ]
      refine take_on (i := 7) (v := ?_) rfl rfl (by kernel_rfl) (by kernel_rfl) (by kernel_rfl) (fun _ _ _ h => h) rfl ?_ hHeld ?_
      rotate_left
      · (intro wq hSq; have u0 := (World.cell?_of_block (w := y2) (a := ⟨pp, 1, none⟩) (hSq.block pp hpy)).trans q1; have u1 := (World.cell?_of_block (w := y2) (a := ⟨pp, 2, none⟩) (hSq.block pp hpy)).trans q2; have u2 := (World.cell?_of_block (w := y2) (a := ⟨pp, 3, none⟩) (hSq.block pp hpy)).trans q3; have u3 := (World.cell?_of_block (w := y2) (a := ⟨w.heap.size, 1, none⟩) (hSq.block w.heap.size hsy)).trans t1; go_simp <;> first | with_reducible rfl | rfl)
      simp only [Act.put, List.setIfInBounds_toArray, List.set_cons_zero, List.set_cons_succ]
      refine take_on (i := 8) (v := ?_) rfl rfl (by kernel_rfl) (by kernel_rfl) (by kernel_rfl) (fun _ _ _ h => h) rfl ?_ hHeld ?_
      rotate_left
      · (intro wq hSq; have u0 := (World.cell?_of_block (w := y2) (a := ⟨pp, 1, none⟩) (hSq.block pp hpy)).trans q1; have u1 := (World.cell?_of_block (w := y2) (a := ⟨pp, 2, none⟩) (hSq.block pp hpy)).trans q2; have u2 := (World.cell?_of_block (w := y2) (a := ⟨pp, 3, none⟩) (hSq.block pp hpy)).trans q3; have u3 := (World.cell?_of_block (w := y2) (a := ⟨w.heap.size, 1, none⟩) (hSq.block w.heap.size hsy)).trans t1; go_simp <;> first | with_reducible rfl | rfl)
      simp only [Act.put, List.setIfInBounds_toArray, List.set_cons_zero, List.set_cons_succ]
      refine take_on (i := 9) (v := ?_) rfl rfl (by kernel_rfl) (by kernel_rfl) (by kernel_rfl) (fun _ _ _ h => h) rfl ?_ hHeld ?_
      rotate_left
      · (intro wq hSq; have u0 := (World.cell?_of_block (w := y2) (a := ⟨pp, 1, none⟩) (hSq.block pp hpy)).trans q1; have u1 := (World.cell?_of_block (w := y2) (a := ⟨pp, 2, none⟩) (hSq.block pp hpy)).trans q2; have u2 := (World.cell?_of_block (w := y2) (a := ⟨pp, 3, none⟩) (hSq.block pp hpy)).trans q3; have u3 := (World.cell?_of_block (w := y2) (a := ⟨w.heap.size, 1, none⟩) (hSq.block w.heap.size hsy)).trans t1; go_simp <;> first | with_reducible rfl | rfl)
      simp only [Act.put, List.setIfInBounds_toArray, List.set_cons_zero, List.set_cons_succ]
      refine take_one (i := 10) rfl (by kernel_rfl) (fun K hK => ?_)
      · obtain ⟨yA, eA, hLk⟩ := hLk.box
        go_simp
        first | rw [← eA] | rw [show (y2.alloc (.cells #[.int .i64 0, .slice none 0 0, .slice none 0 0] 52)).drew = yA from eA.symm]
        clear eA
        try change Lk _ y2 yA none (some y2.heap.size) at hLk
        refine hK.out _ _ ?_ (fun hHeld => ?_)
        · exact hLk.bel
        clear hK K
        try simp only [Act.put, List.setIfInBounds_toArray, List.set_cons_zero, List.set_cons_succ]
        refine take_one (i := 11) rfl (by kernel_rfl) (fun K hK => ?_)
        obtain ⟨g1, g2⟩ := hLk.q _ rfl
        obtain ⟨y0, y1, y2', z0, z1, z2⟩ := g2.cells
        have hfi := hLk.fin (B' : Int)
        go_simp
        refine hK.out _ _ ?_ (fun hHeld => ?_)
        · exact hfi.2.2.bel
        clear hK K
        try simp only [Act.put, List.setIfInBounds_toArray, List.set_cons_zero, List.set_cons_succ]
        refine take_on (i := 12) (v := ?_) rfl rfl (by kernel_rfl) (by kernel_rfl) (by kernel_rfl) (fun _ _ _ h => h) rfl ?_ hHeld ?_
        rotate_left
        · (intro wq hSq; have u0 := (World.cell?_of_block (w := y2) (a := ⟨pp, 1, none⟩) (hSq.block pp hpy)).trans q1; have u1 := (World.cell?_of_block (w := y2) (a := ⟨pp, 2, none⟩) (hSq.block pp hpy)).trans q2; have u2 := (World.cell?_of_block (w := y2) (a := ⟨pp, 3, none⟩) (hSq.block pp hpy)).trans q3; have u3 := (World.cell?_of_block (w := y2) (a := ⟨w.heap.size, 1, none⟩) (hSq.block w.heap.size hsy)).trans t1; go_simp <;> first | with_reducible rfl | rfl)
        simp only [Act.put, List.setIfInBounds_toArray, List.set_cons_zero, List.set_cons_succ]
        refine wpAnyH_done (by kernel_rfl) ?_ _
        try go_wp2_with fail
        go_meet
        case rel => exact ⟨_, _, _, rfl, rfl, hide_it hfi⟩
    · obtain ⟨yA, eA, hLk⟩ := hLk.box
      go_simp
      first | rw [← eA] | rw [show (y2.alloc (.cells #[.int .i64 0, .slice none 0 0, .slice none 0 0] 52)).drew = yA from eA.symm]
      clear eA
      try change Lk _ y2 yA none (some y2.heap.size) at hLk
      refine hK.out _ _ ?_ (fun hHeld => ?_)
      · exact hLk.bel
      clear hK K
      try simp only [Act.put, List.setIfInBounds_toArray, List.set_cons_zero, List.set_cons_succ]
      refine take_one (i := 6) rfl (by kernel_rfl) (fun K hK => ?_)
      · go_simp
        refine (hdoc _ _ _ (hdvs.below hHeld)).mono ?_
        rintro e y3 ⟨da', sa', rfl, hD⟩
        replace hLk := hLk.call hHeld hD
        obtain ⟨d1, d2, e1, e2, rfl, rfl, _⟩ := hD.dv.open
        go_wp2_with fail
        refine hK.out _ _ ?_ (fun hHeld => ?_)
        · exact hLk.bel
        clear hK K
        try simp only [Act.put, List.setIfInBounds_toArray, List.set_cons_zero, List.set_cons_succ]
        refine take_on (i := 7) (v := ?_) rfl rfl (by kernel_rfl) (by kernel_rfl) (by kernel_rfl) (fun _ _ _ h => h) rfl ?_ hHeld ?_
        rotate_left
        · (intro wq hSq; have u0 := (World.cell?_of_block (w := y2) (a := ⟨pp, 1, none⟩) (hSq.block pp hpy)).trans q1; have u1 := (World.cell?_of_block (w := y2) (a := ⟨pp, 2, none⟩) (hSq.block pp hpy)).trans q2; have u2 := (World.cell?_of_block (w := y2) (a := ⟨pp, 3, none⟩) (hSq.block pp hpy)).trans q3; have u3 := (World.cell?_of_block (w := y2) (a := ⟨w.heap.size, 1, none⟩) (hSq.block w.heap.size hsy)).trans t1; go_simp <;> first | with_reducible rfl | rfl)
        simp only [Act.put, List.setIfInBounds_toArray, List.set_cons_zero, List.set_cons_succ]
        refine take_on (i := 8) (v := ?_) rfl rfl (by kernel_rfl) (by kernel_rfl) (by kernel_rfl) (fun _ _ _ h => h) rfl ?_ hHeld ?_
        rotate_left
        · (intro wq hSq; have u0 := (World.cell?_of_block (w := y2) (a := ⟨pp, 1, none⟩) (hSq.block pp hpy)).trans q1; have u1 := (World.cell?_of_block (w := y2) (a := ⟨pp, 2, none⟩) (hSq.block pp hpy)).trans q2; have u2 := (World.cell?_of_block (w := y2) (a := ⟨pp, 3, none⟩) (hSq.block pp hpy)).trans q3; have u3 := (World.cell?_of_block (w := y2) (a := ⟨w.heap.size, 1, none⟩) (hSq.block w.heap.size hsy)).trans t1; go_simp <;> first | with_reducible rfl | rfl)
        simp only [Act.put, List.setIfInBounds_toArray, List.set_cons_zero, List.set_cons_succ]
        refine take_on (i := 9) (v := ?_) rfl rfl (by kernel_rfl) (by kernel_rfl) (by kernel_rfl) (fun _ _ _ h => h) rfl ?_ hHeld ?_
        rotate_left
        · (intro wq hSq; have u0 := (World.cell?_of_block (w := y2) (a := ⟨pp, 1, none⟩) (hSq.block pp hpy)).trans q1; have u1 := (World.cell?_of_block (w := y2) (a := ⟨pp, 2, none⟩) (hSq.block pp hpy)).trans q2; have u2 := (World.cell?_of_block (w := y2) (a := ⟨pp, 3, none⟩) (hSq.block pp hpy)).trans q3; have u3 := (World.cell?_of_block (w := y2) (a := ⟨w.heap.size, 1, none⟩) (hSq.block w.heap.size hsy)).trans t1; go_simp <;> first | with_reducible rfl | rfl)
        simp only [Act.put, List.setIfInBounds_toArray, List.set_cons_zero, List.set_cons_succ]
        refine take_one (i := 11) rfl (by kernel_rfl) (fun K hK => ?_)
        obtain ⟨g1, g2⟩ := hLk.q _ rfl
        obtain ⟨y0, y1, y2', z0, z1, z2⟩ := g2.cells
        have hfi := hLk.fin (B' : Int)
        go_simp
        refine hK.out _ _ ?_ (fun hHeld => ?_)
        · exact hfi.2.2.bel
        clear hK K
        try simp only [Act.put, List.setIfInBounds_toArray, List.set_cons_zero, List.set_cons_succ]
        refine take_on (i := 12) (v := ?_) rfl rfl (by kernel_rfl) (by kernel_rfl) (by kernel_rfl) (fun _ _ _ h => h) rfl ?_ hHeld ?_
        rotate_left
        · (intro wq hSq; have u0 := (World.cell?_of_block (w := y2) (a := ⟨pp, 1, none⟩) (hSq.block pp hpy)).trans q1; have u1 := (World.cell?_of_block (w := y2) (a := ⟨pp, 2, none⟩) (hSq.block pp hpy)).trans q2; have u2 := (World.cell?_of_block (w := y2) (a := ⟨pp, 3, none⟩) (hSq.block pp hpy)).trans q3; have u3 := (World.cell?_of_block (w := y2) (a := ⟨w.heap.size, 1, none⟩) (hSq.block w.heap.size hsy)).trans t1; go_simp <;> first | with_reducible rfl | rfl)
        simp only [Act.put, List.setIfInBounds_toArray, List.set_cons_zero, List.set_cons_succ]
        refine wpAnyH_done (by kernel_rfl) ?_ _
        try go_wp2_with fail
        go_meet
        case rel => exact ⟨_, _, _, rfl, rfl, hide_it hfi⟩
  case rest =>
    obtain ⟨g, da', sa', rfl, rfl, hcc⟩ := hcut
    obtain ⟨hbx, hgl, hD⟩ := hcc.out
    obtain ⟨d1, d2, e1, e2, rfl, rfl, _⟩ := hD.dv.open
    obtain ⟨⟨r0, r1, r2, r3⟩, f0, f1, f2, f3⟩ := (hM2.below hD.bel).cells
    obtain ⟨x0, x1, x2, _⟩ := hbx.cells
    have hfin := two_docs hbw1 hM1 hm hM2 hD
    clear hD hM2 hM1 hM0 hm q0 q1 q2 q3 hcc hbx hdoc hdvs hLk t0 t1 t2 t3
    go_wp2_with fail
    go_ret
    exact hfin

end Go.Proofs.Ytejaaalgnbnalaa
