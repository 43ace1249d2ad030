/- A step of both areas, walked: Sync, Append, Crash. -/
import Derived.Test.YtejaaalgnbnalaaSt1
namespace Go.Proofs.Ytejaaalgnbnalaa
open Go.RowKit

theorem grow3 {w W0 w1 : World} {F : Nat → Prop} (h0 : w.heap.size ≤ W0.heap.size) (h1 : W0.heap.size ≤ w1.heap.size) : ∀ j, grow w1 (grow W0 F) j → grow w F j := fun j hj => by
  rcases hj with (hj | hj) | hj
  · exact .inl hj
  · exact .inr (by omega)
  · exact .inr (by omega)
/-- The program's call and the document's, one behind the other: what is left. -/
theorem two_calls {w W0 w1 w2 : World} {F : Nat → Prop} {pp p : Nat} {v v1 da sa da' sa' : Value} {B : Nat} {bs : List Nat} {k B' : Nat} {bs' : List Nat} {k' : Nat} (hb0 : Below w.heap.size w W0) (hM0 : Md W0 F pp p v da sa B bs k B bs k) (hm : Moved W0 p 0 v B' bs' k' w1)
    (hM1 : Md w1 (grow W0 F) pp p v1 da sa B bs k B' bs' k') (hD : Dn w1 da' sa' bs' k' w2) : Stepd w F pp B' bs' k' (.returned (.bool true)) (set3 w2 pp (B' : Int) da' sa') := by
  have h1 := (hM0.prog_chg hm)
  refine ⟨rfl, ⟨p, v1, da', sa', (hM1.doc hD).mono (grow3 hb0.size h1.size)⟩, ?_⟩
  have hc : Chg F W0 w2 := h1.trans (Chg.new (S := F) hD.bel) (fun _ _ h => h)
  exact (Chg.new hb0).trans (hM0.set3_chg hc _ _ _) (fun _ _ h => h)

set_option maxRecDepth 100000 in
set_option maxHeartbeats 1600000 in
theorem step2 (a b : Int) (d : Pc) (w : World) (F : Nat → Prop) (pp B : Nat) (bs : List Nat) (k : Nat) (h : Pm w F pp B bs k) (hl : bs.length ≤ 211106232532800) :
    Calls Try.prog 17 #[.pointer (some ⟨pp, 0, none⟩), valS ⟨2, a, b, d⟩] w fun e w' => Stepd w F pp B bs bs.length e w' := by
  obtain ⟨p, v, da, sa, hM⟩ := h
  obtain ⟨W0, hW0⟩ : ∃ W0, W0 = w.alloc (.cells #[.int .i64 2, .int .i64 a, .int .i64 b, .slice d.a d.p.length d.c] 47) := ⟨_, rfl⟩
  have hb0 : Below w.heap.size w W0 := by rw [hW0]; exact (Below.refl _ _).alloc (Nat.le_refl _) _
  have hM0 := hM.below hb0
  have hsy := sync_any W0 hM0.ar
  obtain ⟨⟨p0, p1, p2, p3⟩, _⟩ := hM0.cells
  have hpl := hM.lt
  clear hM
  rw [hW0] at p0 p1 p2 p3
  show Calls Try.prog _ #[.pointer (some ⟨pp, 0, none⟩), .agg #[.int .i64 2, .int .i64 a, .int .i64 b, .slice d.a d.p.length d.c]] w _
  go_enter Try.func17, Try.ntmps17
  go_wp2_with fail
  rw [← hW0]
  clear hW0
  refine hsy.mono ?_
  rintro e w1 ⟨rfl, hm⟩
  obtain ⟨v1, hM1⟩ := hM0.prog hm
  obtain ⟨⟨q0, q1, q2, q3⟩, _⟩ := hM1.cells
  have hrs := rsync_any (B : Int) w1 hM1.dv hl
  clear hsy p0 p1 p2 p3
  obtain ⟨a1, c1, a2, c2, hda, hsa, _⟩ := hM1.dv.open
  subst hda
  subst hsa
  go_wp2_with fail
  refine hrs.mono ?_
  rintro e w2 ⟨da', sa', rfl, hD⟩
  obtain ⟨⟨r0, r1, r2, r3⟩, f0, f1, f2, f3⟩ := (hM1.below hD.bel).cells
  obtain ⟨d1, d2, e1, e2, rfl, rfl, _⟩ := hD.dv.open
  have hfin := two_calls hb0 hM0 hm hM1 hD
  clear hrs hD hM1 hM0 hm q0 q1 q2 q3
  go_wp2_with fail
  go_ret
  exact hfin

theorem Dn.undrew {w w' : World} {da sa : Value} {bs : List Nat} {k : Nat} (h : Dn w.drew da sa bs k w') : Dn w da sa bs k w' := ⟨h.by_, h.sf, h.le, (Below.refl _ _).drew.trans h.bel⟩
/-- A copy of bytes, made by an append to nothing. -/
theorem copy_run {w : World} (ty : TypeId) (a : Option Addr) (cap : Nat) (zs : List Nat) (hr : RowB w a zs) (hnil : a = none → zs.length = 0 ∧ cap = 0) (hl : zs.length ≤ 211106232532800) :
    ∃ a' c' w', (Builtin.append_ #[23, 23] ty #[.slice none 0 0, .slice a zs.length cap]).run Try.prog w = .ok (.slice a' zs.length c') w' ∧ RowB w' a' zs ∧ (a' = none → zs.length = 0 ∧ c' = 0) ∧ Below w.heap.size w w' := by
  obtain ⟨v', w', q1, q2, q3, q4⟩ := run_appendB w ty w.heap.size (.slice none 0 0) [] (OwB.nil _ _) a cap zs hr hnil (by simp; omega) (Nat.le_refl _)
  rw [List.nil_append] at q2
  obtain ⟨a', c', rfl, h1, _, _, h2⟩ := q2.row
  exact ⟨a', c', w', q1, h1, h2, (Below.refl _ _).grown q3 (Nat.le_refl _) (fun j e => by cases e)⟩

set_option maxRecDepth 100000 in
set_option maxHeartbeats 1600000 in
theorem step1 (a b : Int) (d : Pc) (w : World) (F : Nat → Prop) (hd : ∀ w', Chg F w w' → PcOk w' d) (pp B : Nat) (bs : List Nat) (k : Nat) (h : Pm w F pp B bs k) (hl : bs.length + d.p.length ≤ 211106232532800) (hB : B + bs.length + d.p.length ≤ 9223372036854775807) :
    Calls Try.prog 17 #[.pointer (some ⟨pp, 0, none⟩), valS ⟨1, a, b, d⟩] w fun e w' => Stepd w F pp B (bs ++ d.p) k e w' := by
  obtain ⟨p, v, da, sa, hM⟩ := h
  have hq0 := BoxS.new w ⟨1, a, b, d⟩
  obtain ⟨xa, xc, zs⟩ := d
  obtain ⟨hdr, hd8, _, hdn⟩ := hd w (Chg.refl _ _)
  obtain ⟨W0, hW0⟩ : ∃ W0, W0 = w.alloc (.cells #[.int .i64 1, .int .i64 a, .int .i64 b, .slice xa zs.length xc] 47) := ⟨_, rfl⟩
  simp only at hq0 hdr hd8 hdn hl hB
  rw [← hW0] at hq0
  have hb0 : Below w.heap.size w W0 := by rw [hW0]; exact (Below.refl _ _).alloc (Nat.le_refl _) _
  have hM0 := hM.below hb0
  obtain ⟨⟨p0, p1, p2, p3⟩, _⟩ := hM0.cells
  obtain ⟨s0, s1, s2, s3⟩ := hq0.cells
  have hpl := hM.lt
  have hpf : ∀ j, Ft p v j → j < w.heap.size := hM.ar.inside
  obtain ⟨x1, x2, y1, hrun, hr1, hn1, hb1⟩ := copy_run (w := W0.drew) 23 xa xc zs (hdr.below (hb0.trans (Below.refl _ _).drew)) hdn (by omega)
  have hb1' : Below W0.heap.size W0 y1 := (Below.refl _ _).drew.trans hb1
  have hM1 := hM0.below hb1'
  have hap := append_any y1 hM1.ar x1 x2 zs hr1 hd8 hn1 hl hB
  have hs0 := hq0.lt
  have hbw1 := hb0.trans (hb1'.mono hb0.size)
  replace hB := hide_it hB
  replace hl := hide_it hl
  clear hM
  show Calls Try.prog _ #[.pointer (some ⟨pp, 0, none⟩), .agg #[.int .i64 1, .int .i64 a, .int .i64 b, .slice xa zs.length xc]] w _
  go_enter Try.func17, Try.ntmps17
  go_wp2_with fail
  rw [← hW0]
  clear hW0
  refine wp_region_held_drew (S := (fun w' => w'.heap[pp]? = W0.heap[pp]? ∧ w'.heap[w.heap.size]? = W0.heap[w.heap.size]?)) (by kernel_rfl) ?_ (fun hHeld => ?_)
  · exact ⟨rfl, rfl⟩
  refine take_on (i := 0) (v := ?_) rfl rfl (by kernel_rfl) (by kernel_rfl) (by kernel_rfl) (fun _ _ _ h => h) rfl ?_ hHeld ?_
  rotate_left
  · (intro wq hSq; have q0 := (World.cell?_of_block (w := W0) (a := ⟨pp, 0, none⟩) hSq.1).trans p0; have q3 := (World.cell?_of_block (w := W0) (a := ⟨w.heap.size, 3, none⟩) hSq.2).trans s3; go_simp <;> first | with_reducible rfl | rfl)
  simp only [Act.put, List.setIfInBounds_toArray, List.set_cons_zero, List.set_cons_succ]
  refine take_on (i := 1) (v := ?_) rfl rfl (by kernel_rfl) (by kernel_rfl) (by kernel_rfl) (fun _ _ _ h => h) rfl ?_ hHeld ?_
  rotate_left
  · (intro wq hSq; have q0 := (World.cell?_of_block (w := W0) (a := ⟨pp, 0, none⟩) hSq.1).trans p0; have q3 := (World.cell?_of_block (w := W0) (a := ⟨w.heap.size, 3, none⟩) hSq.2).trans s3; go_simp <;> first | with_reducible rfl | rfl)
  simp only [Act.put, List.setIfInBounds_toArray, List.set_cons_zero, List.set_cons_succ]
  refine take_on (i := 2) (v := ?_) rfl rfl (by kernel_rfl) (by kernel_rfl) (by kernel_rfl) (fun _ _ _ h => h) rfl ?_ hHeld ?_
  rotate_left
  · (intro wq hSq; have q0 := (World.cell?_of_block (w := W0) (a := ⟨pp, 0, none⟩) hSq.1).trans p0; have q3 := (World.cell?_of_block (w := W0) (a := ⟨w.heap.size, 3, none⟩) hSq.2).trans s3; go_simp <;> first | with_reducible rfl | rfl)
  simp only [Act.put, List.setIfInBounds_toArray, List.set_cons_zero, List.set_cons_succ]
  refine take_on (i := 3) (v := ?_) rfl rfl (by kernel_rfl) (by kernel_rfl) (by kernel_rfl) (fun _ _ _ h => h) rfl ?_ hHeld ?_
  rotate_left
  · (intro wq hSq; have q0 := (World.cell?_of_block (w := W0) (a := ⟨pp, 0, none⟩) hSq.1).trans p0; have q3 := (World.cell?_of_block (w := W0) (a := ⟨w.heap.size, 3, none⟩) hSq.2).trans s3; go_simp <;> first | with_reducible rfl | rfl)
  simp only [Act.put, List.setIfInBounds_toArray, List.set_cons_zero, List.set_cons_succ]
  refine take_on (i := 4) (v := ?_) rfl rfl (by kernel_rfl) (by kernel_rfl) (by kernel_rfl) (fun _ _ _ h => h) rfl ?_ hHeld ?_
  rotate_left
  · (intro wq hSq; have q0 := (World.cell?_of_block (w := W0) (a := ⟨pp, 0, none⟩) hSq.1).trans p0; have q3 := (World.cell?_of_block (w := W0) (a := ⟨w.heap.size, 3, none⟩) hSq.2).trans s3; go_simp <;> first | with_reducible rfl | rfl)
  simp only [Act.put, List.setIfInBounds_toArray, List.set_cons_zero, List.set_cons_succ]
  refine take_on (i := 5) (v := ?_) rfl rfl (by kernel_rfl) (by kernel_rfl) (by kernel_rfl) (fun _ _ _ h => h) rfl ?_ hHeld ?_
  rotate_left
  · (intro wq hSq; have q0 := (World.cell?_of_block (w := W0) (a := ⟨pp, 0, none⟩) hSq.1).trans p0; have q3 := (World.cell?_of_block (w := W0) (a := ⟨w.heap.size, 3, none⟩) hSq.2).trans s3; go_simp <;> first | with_reducible rfl | rfl)
  simp only [Act.put, List.setIfInBounds_toArray, List.set_cons_zero, List.set_cons_succ]
  refine take_one (i := 6) rfl (by kernel_rfl) (fun K hK => ?_)
  refine step_append_run rfl _ _ _ rfl _ _ _ _ rfl rfl hrun ?_
  refine hK.out _ _ ?_ (fun hHeld => ?_)
  · exact ⟨hb1'.block _ hM0.lt, hb1'.block _ hs0⟩
  clear hK K
  try simp only [Act.put, List.setIfInBounds_toArray, List.set_cons_zero, List.set_cons_succ]
  refine take_one (i := 7) rfl (by kernel_rfl) (fun K hK => ?_)
  go_simp
  refine hap.mono ?_; rintro e y2 ⟨rfl, hm⟩
  try go_wp2_with fail
  refine hK.out _ _ ?_ (fun hHeld => ?_)
  · exact ⟨(hm.chg.block pp hM1.lt hM1.sep1).trans (hb1'.block _ hM0.lt), (hm.chg.block w.heap.size (by have := hb1'.size; omega) (fun h4 => by have := hpf _ h4; omega)).trans (hb1'.block _ hs0)⟩
  clear hK K
  try simp only [Act.put, List.setIfInBounds_toArray, List.set_cons_zero, List.set_cons_succ]
  refine take_on (i := 8) (v := ?_) rfl rfl (by kernel_rfl) (by kernel_rfl) (by kernel_rfl) (fun _ _ _ h => h) rfl ?_ hHeld ?_
  rotate_left
  · (intro wq hSq; have q0 := (World.cell?_of_block (w := W0) (a := ⟨pp, 0, none⟩) hSq.1).trans p0; have q3 := (World.cell?_of_block (w := W0) (a := ⟨w.heap.size, 3, none⟩) hSq.2).trans s3; go_simp <;> first | with_reducible rfl | rfl)
  simp only [Act.put, List.setIfInBounds_toArray, List.set_cons_zero, List.set_cons_succ]
  refine wpAnyH_done (by kernel_rfl) ?_ _
  obtain ⟨v1, hM2⟩ := hM1.prog hm
  have hqb : BoxS y2 w.heap.size ⟨1, a, b, ⟨xa, xc, zs⟩⟩ := hHeld.2.trans hq0
  have hM3 := hM2.below (Below.refl _ _).drew
  have hcg : Chg F w y2.drew := ((Chg.new hbw1).trans (hM1.prog_chg hm) (fun _ _ h => h)).drew
  have hrow2 : RowB y2.drew xa zs := (hd _ hcg).row
  have hmo := hM3.dv.more (B : Int) xa xc zs hrow2 hdn hl.out
  obtain ⟨⟨q0, q1, q2, q3⟩, _⟩ := hM2.cells
  obtain ⟨t0, t1, t2, t3⟩ := hqb.cells
  have hb2 : Below w.heap.size w y1 := hbw1
  obtain ⟨a1, c1, a2, c2, hda, hsa, _⟩ := hM3.dv.open
  subst hda
  subst hsa
  clear hap hrun p0 p1 p2 p3 s0 s1 s2 s3 hHeld
  go_wp2_with fail
  refine wp_region_held_drew (S := (fun w' => w'.heap[w.heap.size]? = y2.heap[w.heap.size]?)) (by kernel_rfl) ?_ (fun hHeld => ?_)
  · rfl
  refine take_on (i := 0) (v := ?_) rfl rfl (by kernel_rfl) (by kernel_rfl) (by kernel_rfl) (fun _ _ _ h => h) rfl ?_ hHeld ?_
  rotate_left
  · (intro wq hSq; have u3 := (World.cell?_of_block (w := y2) (a := ⟨w.heap.size, 3, none⟩) hSq).trans t3; go_simp <;> first | with_reducible rfl | rfl)
  simp only [Act.put, List.setIfInBounds_toArray, List.set_cons_zero, List.set_cons_succ]
  refine take_on (i := 1) (v := ?_) rfl rfl (by kernel_rfl) (by kernel_rfl) (by kernel_rfl) (fun _ _ _ h => h) rfl ?_ hHeld ?_
  rotate_left
  · (intro wq hSq; have u3 := (World.cell?_of_block (w := y2) (a := ⟨w.heap.size, 3, none⟩) hSq).trans t3; go_simp <;> first | with_reducible rfl | rfl)
  simp only [Act.put, List.setIfInBounds_toArray, List.set_cons_zero, List.set_cons_succ]
  refine take_on (i := 2) (v := ?_) rfl rfl (by kernel_rfl) (by kernel_rfl) (by kernel_rfl) (fun _ _ _ h => h) rfl ?_ hHeld ?_
  rotate_left
  · (intro wq hSq; have u3 := (World.cell?_of_block (w := y2) (a := ⟨w.heap.size, 3, none⟩) hSq).trans t3; go_simp <;> first | with_reducible rfl | rfl)
  simp only [Act.put, List.setIfInBounds_toArray, List.set_cons_zero, List.set_cons_succ]
  refine take_on (i := 3) (v := ?_) rfl rfl (by kernel_rfl) (by kernel_rfl) (by kernel_rfl) (fun _ _ _ h => h) rfl ?_ hHeld ?_
  rotate_left
  · (intro wq hSq; have u3 := (World.cell?_of_block (w := y2) (a := ⟨w.heap.size, 3, none⟩) hSq).trans t3; go_simp <;> first | with_reducible rfl | rfl)
  simp only [Act.put, List.setIfInBounds_toArray, List.set_cons_zero, List.set_cons_succ]
  refine take_on (i := 5) (v := ?_) rfl rfl (by kernel_rfl) (by kernel_rfl) (by kernel_rfl) (fun _ _ _ h => h) rfl ?_ hHeld ?_
  rotate_left
  · (intro wq hSq; have u3 := (World.cell?_of_block (w := y2) (a := ⟨w.heap.size, 3, none⟩) hSq).trans t3; go_simp <;> first | with_reducible rfl | rfl)
  simp only [Act.put, List.setIfInBounds_toArray, List.set_cons_zero, List.set_cons_succ]
  refine take_on (i := 6) (v := ?_) rfl rfl (by kernel_rfl) (by kernel_rfl) (by kernel_rfl) (fun _ _ _ h => h) rfl ?_ hHeld ?_
  rotate_left
  · (intro wq hSq; have u3 := (World.cell?_of_block (w := y2) (a := ⟨w.heap.size, 3, none⟩) hSq).trans t3; go_simp <;> first | with_reducible rfl | rfl)
  simp only [Act.put, List.setIfInBounds_toArray, List.set_cons_zero, List.set_cons_succ]
  refine take_one (i := 4) rfl (by kernel_rfl) (fun K hK => ?_)
  go_simp
  skip
  try go_wp2_with fail
  refine hK.out _ _ ?_ (fun hHeld => ?_)
  · exact hHeld
  clear hK K
  try simp only [Act.put, List.setIfInBounds_toArray, List.set_cons_zero, List.set_cons_succ]
  refine take_one (i := 7) rfl (by kernel_rfl) (fun K hK => ?_)
  go_simp
  refine hmo.mono ?_; rintro e y3 ⟨da', sa', rfl, hD⟩; obtain ⟨⟨r0, r1, r2, r3⟩, f0, f1, f2, f3⟩ := (hM3.below hD.bel).cells; obtain ⟨d1, d2, e1, e2, rfl, rfl, _⟩ := hD.dv.open; rw [List.length_append]
  try go_wp2_with fail
  refine hK.out _ _ ?_ (fun hHeld => ?_)
  · exact hD.bel.block _ hqb.lt
  clear hK K
  try simp only [Act.put, List.setIfInBounds_toArray, List.set_cons_zero, List.set_cons_succ]
  refine take_on (i := 8) (v := ?_) rfl rfl (by kernel_rfl) (by kernel_rfl) (by kernel_rfl) (fun _ _ _ h => h) rfl ?_ hHeld ?_
  rotate_left
  · (intro wq hSq; have u3 := (World.cell?_of_block (w := y2) (a := ⟨w.heap.size, 3, none⟩) hSq).trans t3; go_simp <;> first | with_reducible rfl | rfl)
  simp only [Act.put, List.setIfInBounds_toArray, List.set_cons_zero, List.set_cons_succ]
  refine take_on (i := 9) (v := ?_) rfl rfl (by kernel_rfl) (by kernel_rfl) (by kernel_rfl) (fun _ _ _ h => h) rfl ?_ hHeld ?_
  rotate_left
  · (intro wq hSq; have u3 := (World.cell?_of_block (w := y2) (a := ⟨w.heap.size, 3, none⟩) hSq).trans t3; go_simp <;> first | with_reducible rfl | rfl)
  simp only [Act.put, List.setIfInBounds_toArray, List.set_cons_zero, List.set_cons_succ]
  refine take_one (i := 10) rfl (by kernel_rfl) (fun K hK => ?_)
  go_simp
  refine hK.out _ _ ?_ (fun hHeld => ?_)
  · exact (set3_keep _ _ _ _ _ _ (by omega)).trans hHeld
  clear hK K
  try simp only [Act.put, List.setIfInBounds_toArray, List.set_cons_zero, List.set_cons_succ]
  refine wpAnyH_done (by kernel_rfl) ?_ _
  have hfin := two_calls hb2 hM1 hm hM2 hD.undrew
  rw [List.length_append] at hfin
  clear hmo hD hM3 hM2 hM1 hM0 hm q0 q1 q2 q3 r0 r1 r2 r3 f0 f1 f2 f3
  go_wp2_with fail
  go_ret
  exact hfin

set_option maxRecDepth 100000 in
set_option maxHeartbeats 1600000 in
theorem step7 (a b : Int) (d : Pc) (w : World) (F : Nat → Prop) (pp B : Nat) (bs : List Nat) (k : Nat) (h : Pm w F pp B bs k) (t c : Nat) (ht : (t : Int) = b % 256) (hc : c = min a.toNat (bs.length - k)) :
    Calls Try.prog 17 #[.pointer (some ⟨pp, 0, none⟩), valS ⟨7, a, b, d⟩] w fun e w' => Stepd w F pp B (crashB bs k c t) (k + c) e w' := by
  obtain ⟨p, v, da, sa, hM⟩ := h
  have hk := hM.dv.le
  have hl := hM.ar.len
  have hro := hM.ar.room
  have h8 := hM.ar.all
  have hq0 := BoxS.new w ⟨7, a, b, d⟩
  obtain ⟨xa, xc, zs⟩ := d
  obtain ⟨W0, hW0⟩ : ∃ W0, W0 = w.alloc (.cells #[.int .i64 7, .int .i64 a, .int .i64 b, .slice xa zs.length xc] 47) := ⟨_, rfl⟩
  simp only at hq0
  rw [← hW0] at hq0
  have hb0 : Below w.heap.size w W0 := by rw [hW0]; exact (Below.refl _ _).alloc (Nat.le_refl _) _
  have hM0 := hM.below hb0
  obtain ⟨⟨p0, p1, p2, p3⟩, _⟩ := hM0.cells
  obtain ⟨s0, s1, s2, s3⟩ := hq0.cells
  have hpl := hM.lt
  have hpf : ∀ j, Ft p v j → j < w.heap.size := hM.ar.inside
  have ht8 : t < 256 := by omega
  have hwt : IntKind.u8.wrap b = (t : Int) := by rw [IntKind.wrap_u8', ht]
  have hb1' : Below W0.heap.size W0 W0.drew := (Below.refl _ _).drew
  have hM1 := hM0.below hb1'
  have hcr := crash_any W0.drew hM1.ar hk a t ht8 c hc
  have hs0 := hq0.lt
  have hbw1 := hb0.trans (hb1'.mono hb0.size)
  have hht := hide_it ht
  replace hc := hide_it hc
  clear hM ht
  show Calls Try.prog _ #[.pointer (some ⟨pp, 0, none⟩), .agg #[.int .i64 7, .int .i64 a, .int .i64 b, .slice xa zs.length xc]] w _
  go_enter Try.func17, Try.ntmps17
  go_wp2_with fail
  rw [← hW0]
  clear hW0
  refine wp_region_held_drew (S := (fun w' => w'.heap[pp]? = W0.heap[pp]? ∧ w'.heap[w.heap.size]? = W0.heap[w.heap.size]?)) (by kernel_rfl) ?_ (fun hHeld => ?_)
  · exact ⟨rfl, rfl⟩
  refine take_on (i := 0) (v := ?_) rfl rfl (by kernel_rfl) (by kernel_rfl) (by kernel_rfl) (fun _ _ _ h => h) rfl ?_ hHeld ?_
  rotate_left
  · (intro wq hSq; have q0 := (World.cell?_of_block (w := W0) (a := ⟨pp, 0, none⟩) hSq.1).trans p0; have q1 := (World.cell?_of_block (w := W0) (a := ⟨w.heap.size, 1, none⟩) hSq.2).trans s1; have q2 := (World.cell?_of_block (w := W0) (a := ⟨w.heap.size, 2, none⟩) hSq.2).trans s2; go_simp <;> first | with_reducible rfl | rfl)
  simp only [Act.put, List.setIfInBounds_toArray, List.set_cons_zero, List.set_cons_succ]
  refine take_on (i := 1) (v := ?_) rfl rfl (by kernel_rfl) (by kernel_rfl) (by kernel_rfl) (fun _ _ _ h => h) rfl ?_ hHeld ?_
  rotate_left
  · (intro wq hSq; have q0 := (World.cell?_of_block (w := W0) (a := ⟨pp, 0, none⟩) hSq.1).trans p0; have q1 := (World.cell?_of_block (w := W0) (a := ⟨w.heap.size, 1, none⟩) hSq.2).trans s1; have q2 := (World.cell?_of_block (w := W0) (a := ⟨w.heap.size, 2, none⟩) hSq.2).trans s2; go_simp <;> first | with_reducible rfl | rfl)
  simp only [Act.put, List.setIfInBounds_toArray, List.set_cons_zero, List.set_cons_succ]
  refine take_on (i := 2) (v := ?_) rfl rfl (by kernel_rfl) (by kernel_rfl) (by kernel_rfl) (fun _ _ _ h => h) rfl ?_ hHeld ?_
  rotate_left
  · (intro wq hSq; have q0 := (World.cell?_of_block (w := W0) (a := ⟨pp, 0, none⟩) hSq.1).trans p0; have q1 := (World.cell?_of_block (w := W0) (a := ⟨w.heap.size, 1, none⟩) hSq.2).trans s1; have q2 := (World.cell?_of_block (w := W0) (a := ⟨w.heap.size, 2, none⟩) hSq.2).trans s2; go_simp <;> first | with_reducible rfl | rfl)
  simp only [Act.put, List.setIfInBounds_toArray, List.set_cons_zero, List.set_cons_succ]
  refine take_on (i := 3) (v := ?_) rfl rfl (by kernel_rfl) (by kernel_rfl) (by kernel_rfl) (fun _ _ _ h => h) rfl ?_ hHeld ?_
  rotate_left
  · (intro wq hSq; have q0 := (World.cell?_of_block (w := W0) (a := ⟨pp, 0, none⟩) hSq.1).trans p0; have q1 := (World.cell?_of_block (w := W0) (a := ⟨w.heap.size, 1, none⟩) hSq.2).trans s1; have q2 := (World.cell?_of_block (w := W0) (a := ⟨w.heap.size, 2, none⟩) hSq.2).trans s2; go_simp <;> first | with_reducible rfl | rfl)
  simp only [Act.put, List.setIfInBounds_toArray, List.set_cons_zero, List.set_cons_succ]
  refine take_on (i := 4) (v := ?_) rfl rfl (by kernel_rfl) (by kernel_rfl) (by kernel_rfl) (fun _ _ _ h => h) rfl ?_ hHeld ?_
  rotate_left
  · (intro wq hSq; have q0 := (World.cell?_of_block (w := W0) (a := ⟨pp, 0, none⟩) hSq.1).trans p0; have q1 := (World.cell?_of_block (w := W0) (a := ⟨w.heap.size, 1, none⟩) hSq.2).trans s1; have q2 := (World.cell?_of_block (w := W0) (a := ⟨w.heap.size, 2, none⟩) hSq.2).trans s2; go_simp <;> first | with_reducible rfl | rfl)
  simp only [Act.put, List.setIfInBounds_toArray, List.set_cons_zero, List.set_cons_succ]
  refine take_on (i := 5) (v := ?_) rfl rfl (by kernel_rfl) (by kernel_rfl) (by kernel_rfl) (fun _ _ _ h => h) rfl ?_ hHeld ?_
  rotate_left
  · (intro wq hSq; have q0 := (World.cell?_of_block (w := W0) (a := ⟨pp, 0, none⟩) hSq.1).trans p0; have q1 := (World.cell?_of_block (w := W0) (a := ⟨w.heap.size, 1, none⟩) hSq.2).trans s1; have q2 := (World.cell?_of_block (w := W0) (a := ⟨w.heap.size, 2, none⟩) hSq.2).trans s2; go_simp <;> first | with_reducible rfl | rfl)
  simp only [Act.put, List.setIfInBounds_toArray, List.set_cons_zero, List.set_cons_succ]
  refine take_on (i := 6) (v := ?_) rfl rfl (by kernel_rfl) (by kernel_rfl) (by kernel_rfl) (fun _ _ _ h => h) rfl ?_ hHeld ?_
  rotate_left
  · (intro wq hSq; have q0 := (World.cell?_of_block (w := W0) (a := ⟨pp, 0, none⟩) hSq.1).trans p0; have q1 := (World.cell?_of_block (w := W0) (a := ⟨w.heap.size, 1, none⟩) hSq.2).trans s1; have q2 := (World.cell?_of_block (w := W0) (a := ⟨w.heap.size, 2, none⟩) hSq.2).trans s2; go_simp <;> first | with_reducible rfl | rfl)
  simp only [Act.put, List.setIfInBounds_toArray, List.set_cons_zero, List.set_cons_succ]
  refine take_on (i := 7) (v := ?_) rfl rfl (by kernel_rfl) (by kernel_rfl) (by kernel_rfl) (fun _ _ _ h => h) rfl ?_ hHeld ?_
  rotate_left
  · (intro wq hSq; have q0 := (World.cell?_of_block (w := W0) (a := ⟨pp, 0, none⟩) hSq.1).trans p0; have q1 := (World.cell?_of_block (w := W0) (a := ⟨w.heap.size, 1, none⟩) hSq.2).trans s1; have q2 := (World.cell?_of_block (w := W0) (a := ⟨w.heap.size, 2, none⟩) hSq.2).trans s2; go_simp <;> first | with_reducible rfl | rfl)
  simp only [Act.put, List.setIfInBounds_toArray, List.set_cons_zero, List.set_cons_succ]
  refine take_on (i := 8) (v := ?_) rfl rfl (by kernel_rfl) (by kernel_rfl) (by kernel_rfl) (fun _ _ _ h => h) rfl ?_ hHeld ?_
  rotate_left
  · (intro wq hSq; have q0 := (World.cell?_of_block (w := W0) (a := ⟨pp, 0, none⟩) hSq.1).trans p0; have q1 := (World.cell?_of_block (w := W0) (a := ⟨w.heap.size, 1, none⟩) hSq.2).trans s1; have q2 := (World.cell?_of_block (w := W0) (a := ⟨w.heap.size, 2, none⟩) hSq.2).trans s2; go_simp <;> first | with_reducible rfl | rfl)
  simp only [Act.put, List.setIfInBounds_toArray, List.set_cons_zero, List.set_cons_succ]
  refine take_one (i := 9) rfl (by kernel_rfl) (fun K hK => ?_)
  go_simp
  refine hcr.mono ?_; rintro e y2 ⟨rfl, hm⟩
  try go_wp2_with fail
  refine hK.out _ _ ?_ (fun hHeld => ?_)
  · exact ⟨(hm.chg.block pp hM1.lt hM1.sep1), (hm.chg.block w.heap.size hs0 (fun h4 => by have := hpf _ h4; omega))⟩
  clear hK K
  try simp only [Act.put, List.setIfInBounds_toArray, List.set_cons_zero, List.set_cons_succ]
  refine take_on (i := 10) (v := ?_) rfl rfl (by kernel_rfl) (by kernel_rfl) (by kernel_rfl) (fun _ _ _ h => h) rfl ?_ hHeld ?_
  rotate_left
  · (intro wq hSq; have q0 := (World.cell?_of_block (w := W0) (a := ⟨pp, 0, none⟩) hSq.1).trans p0; have q1 := (World.cell?_of_block (w := W0) (a := ⟨w.heap.size, 1, none⟩) hSq.2).trans s1; have q2 := (World.cell?_of_block (w := W0) (a := ⟨w.heap.size, 2, none⟩) hSq.2).trans s2; go_simp <;> first | with_reducible rfl | rfl)
  simp only [Act.put, List.setIfInBounds_toArray, List.set_cons_zero, List.set_cons_succ]
  refine wpAnyH_done (by kernel_rfl) ?_ _
  obtain ⟨v1, hM2⟩ := hM1.prog hm
  have hqb : BoxS y2 w.heap.size ⟨7, a, b, ⟨xa, xc, zs⟩⟩ := hHeld.2.trans hq0
  have hM3 := hM2.below (Below.refl _ _).drew
  have hcr2 := rcrash_any B y2.drew hM3.dv hro hl a t ht8 h8 c hc.out
  obtain ⟨⟨q0, q1, q2, q3⟩, _⟩ := hM2.cells
  obtain ⟨t0, t1, t2, t3⟩ := hqb.cells
  obtain ⟨a1, c1, a2, c2, hda, hsa, _⟩ := hM3.dv.open
  subst hda
  subst hsa
  clear hcr p0 p1 p2 p3 s0 s1 s2 s3 hHeld
  go_wp2_with fail
  refine wp_region_held_drew (S := (fun w' => w'.heap[w.heap.size]? = y2.heap[w.heap.size]?)) (by kernel_rfl) ?_ (fun hHeld => ?_)
  · rfl
  refine take_on (i := 0) (v := ?_) rfl rfl (by kernel_rfl) (by kernel_rfl) (by kernel_rfl) (fun _ _ _ h => h) rfl ?_ hHeld ?_
  rotate_left
  · (intro wq hSq; have u1 := (World.cell?_of_block (w := y2) (a := ⟨w.heap.size, 1, none⟩) hSq).trans t1; have u2 := (World.cell?_of_block (w := y2) (a := ⟨w.heap.size, 2, none⟩) hSq).trans t2; go_simp <;> first | with_reducible rfl | rfl)
  simp only [Act.put, List.setIfInBounds_toArray, List.set_cons_zero, List.set_cons_succ]
  refine take_on (i := 1) (v := ?_) rfl rfl (by kernel_rfl) (by kernel_rfl) (by kernel_rfl) (fun _ _ _ h => h) rfl ?_ hHeld ?_
  rotate_left
  · (intro wq hSq; have u1 := (World.cell?_of_block (w := y2) (a := ⟨w.heap.size, 1, none⟩) hSq).trans t1; have u2 := (World.cell?_of_block (w := y2) (a := ⟨w.heap.size, 2, none⟩) hSq).trans t2; go_simp <;> first | with_reducible rfl | rfl)
  simp only [Act.put, List.setIfInBounds_toArray, List.set_cons_zero, List.set_cons_succ]
  refine take_on (i := 2) (v := ?_) rfl rfl (by kernel_rfl) (by kernel_rfl) (by kernel_rfl) (fun _ _ _ h => h) rfl ?_ hHeld ?_
  rotate_left
  · (intro wq hSq; have u1 := (World.cell?_of_block (w := y2) (a := ⟨w.heap.size, 1, none⟩) hSq).trans t1; have u2 := (World.cell?_of_block (w := y2) (a := ⟨w.heap.size, 2, none⟩) hSq).trans t2; go_simp <;> first | with_reducible rfl | rfl)
  simp only [Act.put, List.setIfInBounds_toArray, List.set_cons_zero, List.set_cons_succ]
  refine take_on (i := 3) (v := ?_) rfl rfl (by kernel_rfl) (by kernel_rfl) (by kernel_rfl) (fun _ _ _ h => h) rfl ?_ hHeld ?_
  rotate_left
  · (intro wq hSq; have u1 := (World.cell?_of_block (w := y2) (a := ⟨w.heap.size, 1, none⟩) hSq).trans t1; have u2 := (World.cell?_of_block (w := y2) (a := ⟨w.heap.size, 2, none⟩) hSq).trans t2; go_simp <;> first | with_reducible rfl | rfl)
  simp only [Act.put, List.setIfInBounds_toArray, List.set_cons_zero, List.set_cons_succ]
  refine take_on (i := 5) (v := ?_) rfl rfl (by kernel_rfl) (by kernel_rfl) (by kernel_rfl) (fun _ _ _ h => h) rfl ?_ hHeld ?_
  rotate_left
  · (intro wq hSq; have u1 := (World.cell?_of_block (w := y2) (a := ⟨w.heap.size, 1, none⟩) hSq).trans t1; have u2 := (World.cell?_of_block (w := y2) (a := ⟨w.heap.size, 2, none⟩) hSq).trans t2; go_simp <;> first | with_reducible rfl | rfl)
  simp only [Act.put, List.setIfInBounds_toArray, List.set_cons_zero, List.set_cons_succ]
  refine take_on (i := 6) (v := ?_) rfl rfl (by kernel_rfl) (by kernel_rfl) (by kernel_rfl) (fun _ _ _ h => h) rfl ?_ hHeld ?_
  rotate_left
  · (intro wq hSq; have u1 := (World.cell?_of_block (w := y2) (a := ⟨w.heap.size, 1, none⟩) hSq).trans t1; have u2 := (World.cell?_of_block (w := y2) (a := ⟨w.heap.size, 2, none⟩) hSq).trans t2; go_simp <;> first | with_reducible rfl | rfl)
  simp only [Act.put, List.setIfInBounds_toArray, List.set_cons_zero, List.set_cons_succ]
  refine take_on (i := 7) (v := ?_) rfl rfl (by kernel_rfl) (by kernel_rfl) (by kernel_rfl) (fun _ _ _ h => h) rfl ?_ hHeld ?_
  rotate_left
  · (intro wq hSq; have u1 := (World.cell?_of_block (w := y2) (a := ⟨w.heap.size, 1, none⟩) hSq).trans t1; have u2 := (World.cell?_of_block (w := y2) (a := ⟨w.heap.size, 2, none⟩) hSq).trans t2; go_simp <;> first | with_reducible rfl | rfl)
  simp only [Act.put, List.setIfInBounds_toArray, List.set_cons_zero, List.set_cons_succ]
  refine take_on (i := 8) (v := ?_) rfl rfl (by kernel_rfl) (by kernel_rfl) (by kernel_rfl) (fun _ _ _ h => h) rfl ?_ hHeld ?_
  rotate_left
  · (intro wq hSq; have u1 := (World.cell?_of_block (w := y2) (a := ⟨w.heap.size, 1, none⟩) hSq).trans t1; have u2 := (World.cell?_of_block (w := y2) (a := ⟨w.heap.size, 2, none⟩) hSq).trans t2; go_simp <;> first | with_reducible rfl | rfl)
  simp only [Act.put, List.setIfInBounds_toArray, List.set_cons_zero, List.set_cons_succ]
  refine take_on (i := 9) (v := ?_) rfl rfl (by kernel_rfl) (by kernel_rfl) (by kernel_rfl) (fun _ _ _ h => h) rfl ?_ hHeld ?_
  rotate_left
  · (intro wq hSq; have u1 := (World.cell?_of_block (w := y2) (a := ⟨w.heap.size, 1, none⟩) hSq).trans t1; have u2 := (World.cell?_of_block (w := y2) (a := ⟨w.heap.size, 2, none⟩) hSq).trans t2; go_simp <;> first | with_reducible rfl | rfl)
  simp only [Act.put, List.setIfInBounds_toArray, List.set_cons_zero, List.set_cons_succ]
  refine take_one (i := 4) rfl (by kernel_rfl) (fun K hK => ?_)
  go_simp
  skip
  try go_wp2_with fail
  refine hK.out _ _ ?_ (fun hHeld => ?_)
  · exact hHeld
  clear hK K
  try simp only [Act.put, List.setIfInBounds_toArray, List.set_cons_zero, List.set_cons_succ]
  refine take_one (i := 10) rfl (by kernel_rfl) (fun K hK => ?_)
  go_simp
  refine hcr2.mono ?_; rintro e y3 ⟨da', sa', rfl, hD⟩; obtain ⟨⟨r0, r1, r2, r3⟩, f0, f1, f2, f3⟩ := (hM3.below hD.bel).cells; obtain ⟨d1, d2, e1, e2, rfl, rfl, _⟩ := hD.dv.open
  try go_wp2_with fail
  refine hK.out _ _ ?_ (fun hHeld => ?_)
  · exact hD.bel.block _ hqb.lt
  clear hK K
  try simp only [Act.put, List.setIfInBounds_toArray, List.set_cons_zero, List.set_cons_succ]
  refine take_on (i := 11) (v := ?_) rfl rfl (by kernel_rfl) (by kernel_rfl) (by kernel_rfl) (fun _ _ _ h => h) rfl ?_ hHeld ?_
  rotate_left
  · (intro wq hSq; have u1 := (World.cell?_of_block (w := y2) (a := ⟨w.heap.size, 1, none⟩) hSq).trans t1; have u2 := (World.cell?_of_block (w := y2) (a := ⟨w.heap.size, 2, none⟩) hSq).trans t2; go_simp <;> first | with_reducible rfl | rfl)
  simp only [Act.put, List.setIfInBounds_toArray, List.set_cons_zero, List.set_cons_succ]
  refine take_on (i := 12) (v := ?_) rfl rfl (by kernel_rfl) (by kernel_rfl) (by kernel_rfl) (fun _ _ _ h => h) rfl ?_ hHeld ?_
  rotate_left
  · (intro wq hSq; have u1 := (World.cell?_of_block (w := y2) (a := ⟨w.heap.size, 1, none⟩) hSq).trans t1; have u2 := (World.cell?_of_block (w := y2) (a := ⟨w.heap.size, 2, none⟩) hSq).trans t2; go_simp <;> first | with_reducible rfl | rfl)
  simp only [Act.put, List.setIfInBounds_toArray, List.set_cons_zero, List.set_cons_succ]
  refine take_one (i := 13) rfl (by kernel_rfl) (fun K hK => ?_)
  go_simp
  refine hK.out _ _ ?_ (fun hHeld => ?_)
  · exact (set3_keep _ _ _ _ _ _ (by omega)).trans hHeld
  clear hK K
  try simp only [Act.put, List.setIfInBounds_toArray, List.set_cons_zero, List.set_cons_succ]
  refine wpAnyH_done (by kernel_rfl) ?_ _
  have hfin := two_calls hbw1 hM1 hm hM2 hD.undrew
  clear hcr2 hD hM3 hM2 hM1 hM0 hm q0 q1 q2 q3 r0 r1 r2 r3 f0 f1 f2 f3
  go_wp2_with fail
  go_ret
  exact hfin

end Go.Proofs.Ytejaaalgnbnalaa
