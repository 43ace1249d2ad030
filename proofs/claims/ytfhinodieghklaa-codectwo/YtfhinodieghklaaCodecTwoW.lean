/- The law that two readers, called in turns, know nothing of each other, walked. -/
import Derived.Test.YtfhinodieghklaaOpenS
import Derived.Test.YtfhinodieghklaaRef8
import Derived.Test.YtfhinodieghklaaReg2
import Derived.Deep.DeepCutAuto
namespace Go.Proofs.Ytfhinodieghklaa.codecTwo
open Go.RowKit

theorem six_cells {w : World} {g : Nat} {cs : Array Value} {t : TypeId} (h : w.heap[g]? = some (.cells cs t (0, 0))) (i : Nat) : w.cell? ⟨g, i, none⟩ = cs[i]? := cell_of_row _ _ _ _ _ _ h
theorem six_no8 (a b : Option Addr) (n m ca cb : Nat) (x y x' y' : Int) (i : Nat) (z : Int) : (#[Value.slice a n ca, .int .i64 x, .int .i64 y, .slice b m cb, .int .i64 x', .int .i64 y'])[i]? ≠ some (.int .u8 z) := by
  match i with
  | 0 => simp
  | 1 => simp
  | 2 => simp
  | 3 => simp
  | 4 => simp
  | 5 => simp
  | i + 6 => simp
theorem setLow {w : World} {g : Nat} {x0 x1 x2 x3 x4 x5 : Value} {t : TypeId} (h : w.heap[g]? = some (.cells #[x0, x1, x2, x3, x4, x5] t (0, 0))) (a b c : Value) : (((w.setCell ⟨g, 0, none⟩ a).setCell ⟨g, 1, none⟩ b).setCell ⟨g, 2, none⟩ c).heap[g]? = some (.cells #[a, b, c, x3, x4, x5] t (0, 0)) := by
  have h3 := heap_setCell_same _ g 2 _ _ c (heap_setCell_same _ g 1 _ _ b (heap_setCell_same w g 0 _ _ a h))
  rw [h3]; rfl
theorem setHigh {w : World} {g : Nat} {x0 x1 x2 x3 x4 x5 : Value} {t : TypeId} (h : w.heap[g]? = some (.cells #[x0, x1, x2, x3, x4, x5] t (0, 0))) (a b c : Value) : (((w.setCell ⟨g, 3, none⟩ a).setCell ⟨g, 4, none⟩ b).setCell ⟨g, 5, none⟩ c).heap[g]? = some (.cells #[x0, x1, x2, a, b, c] t (0, 0)) := by
  have h3 := heap_setCell_same _ g 5 _ _ c (heap_setCell_same _ g 4 _ _ b (heap_setCell_same w g 3 _ _ a h))
  rw [h3]; rfl
theorem grownHigh (w : World) (g : Nat) (x y z : Value) : w.grownBy (((w.setCell ⟨g, 3, none⟩ x).setCell ⟨g, 4, none⟩ y).setCell ⟨g, 5, none⟩ z) (some g) :=
  grown_setCell (grown_setCell (grown_setCell (World.grownBy.refl w (some g)) _ _) _ _) _ _

/-- Two readers of the program's and two of the document's, each where the other is. -/
structure Both (w2 : World) (pw pr p0 p1 : Nat) (a1 : Option Addr) (zs : List Nat) (c1 : Nat) (a2 : Option Addr) (ys : List Nat) (c2 : Nat) (t0 t1 : Nat) (s0 s1 : List Nat × Nat) (w' : World) : Prop where
  r0 : Rst w' (some ⟨p0, 0, none⟩) s0
  r1 : Rst w' (some ⟨p1, 0, none⟩) s1
  i0 : RefIs w' a1 zs c1 t0 s0
  i1 : RefIs w' a2 ys c2 t1 s1
  want : w'.heap[pw]? = some (.cells #[.slice a1 zs.length c1, .int .i64 (t0 : Int), .int .i64 (s0.2 : Int), .slice a2 ys.length c2, .int .i64 (t1 : Int), .int .i64 (s1.2 : Int)] 42 (0, 0))
  rds : w'.heap[pr]? = some (.cells #[.pointer (some ⟨p0, 0, none⟩), .pointer (some ⟨p1, 0, none⟩)] 44 (0, 0))
  bel : Below w2.heap.size w2 w'

/-- A relation of a loop as one whole. -/
structure Whole (P : Prop) : Prop where
  h : P

section
variable {w2 : World} {pw pr p0 p1 : Nat} {a1 : Option Addr} {zs : List Nat} {c1 : Nat} {a2 : Option Addr} {ys : List Nat} {c2 : Nat} {t0 t1 : Nat} {s0 s1 : List Nat × Nat} {w' w'' : World}

theorem lt_of_heap {w : World} {g : Nat} {o : Obj} (h : w.heap[g]? = some o) : g < w.heap.size := (Array.getElem?_eq_some_iff.1 h).1
theorem Both.below (h : Both w2 pw pr p0 p1 a1 zs c1 a2 ys c2 t0 t1 s0 s1 w') (hb : Below w'.heap.size w' w'') : Both w2 pw pr p0 p1 a1 zs c1 a2 ys c2 t0 t1 s0 s1 w'' :=
  ⟨h.r0.below hb, h.r1.below hb, h.i0.below hb, h.i1.below hb, (hb.block _ (lt_of_heap h.want)).trans h.want, (hb.block _ (lt_of_heap h.rds)).trans h.rds, h.bel.trans (hb.mono h.bel.size)⟩

/-- A turn of the first one. -/
theorem Both.turn0 (h : Both w2 pw pr p0 p1 a1 zs c1 a2 ys c2 t0 t1 s0 s1 w') {w3 w4 : World} {S : List Nat × Nat} {t2 : Nat} (hg : w'.grownBy w3 (some p0)) (hR : Rst w3 (some ⟨p0, 0, none⟩) S) (hI : RefIs w4 a1 zs c1 t2 S) (q : Nat) (h01 : p1 ≠ p0) (hw0 : pw ≠ p0) (hw1 : pw ≠ p1) (hr0 : pr ≠ p0) (hrw : pr ≠ pw) (hge0 : w2.heap.size ≤ p0) (hgew : w2.heap.size ≤ pw) (hi0 : RefIs w2 a1 zs c1 0 (zs, 0)) (hi1 : RefIs w2 a2 ys c2 0 (ys, 0)) :
    Both w2 pw pr p0 p1 a1 zs c1 a2 ys c2 t2 t1 S s1 ((((w3.drewN q).setCell ⟨pw, 0, none⟩ (.slice a1 zs.length c1)).setCell ⟨pw, 1, none⟩ (.int .i64 (t2 : Int))).setCell ⟨pw, 2, none⟩ (.int .i64 (S.2 : Int))) := by
  have hbq := below_drewN (Below.refl w3.heap.size w3) q
  have hwant := (hg.block pw (lt_of_heap h.want) (by simpa using hw0)).trans h.want
  have hrds := (hg.block pr (lt_of_heap h.rds) (by simpa using hr0)).trans h.rds
  have hwq : (w3.drewN q).heap[pw]? = _ := hwant
  have hrq : (w3.drewN q).heap[pr]? = _ := hrds
  have hgr := grown3 (w3.drewN q) pw (.slice a1 zs.length c1) (.int .i64 (t2 : Int)) (.int .i64 (S.2 : Int))
  have hb3 : Below w2.heap.size w2 w3 := h.bel.grown hg h.bel.size (fun i e => by cases e; exact hge0)
  have hb := (below_drewN hb3 q).grown hgr (below_drewN hb3 q).size (fun i e => by cases e; exact hgew)
  have hr1 := keep h.r1 h.r0 h01 hg
  exact ⟨(hR.below hbq).far hwq (six_no8 _ _ _ _ _ _ _ _ _ _) (fun e => hw0 e.symm) hgr, (hr1.below hbq).far hwq (six_no8 _ _ _ _ _ _ _ _ _ _) (fun e => hw1 e.symm) hgr, hi0.again hI hb, hi1.again h.i1 hb, setLow hwq _ _ _, (hgr.block pr (lt_of_heap hrq) (by simpa using hrw)).trans hrq, hb⟩
/-- A turn of the second one. -/
theorem Both.turn1 (h : Both w2 pw pr p0 p1 a1 zs c1 a2 ys c2 t0 t1 s0 s1 w') {w3 w4 : World} {S : List Nat × Nat} {t2 : Nat} (hg : w'.grownBy w3 (some p1)) (hR : Rst w3 (some ⟨p1, 0, none⟩) S) (hI : RefIs w4 a2 ys c2 t2 S) (q : Nat) (h01 : p1 ≠ p0) (hw0 : pw ≠ p0) (hw1 : pw ≠ p1) (hr1 : pr ≠ p1) (hrw : pr ≠ pw) (hge1 : w2.heap.size ≤ p1) (hgew : w2.heap.size ≤ pw) (hi0 : RefIs w2 a1 zs c1 0 (zs, 0)) (hi1 : RefIs w2 a2 ys c2 0 (ys, 0)) :
    Both w2 pw pr p0 p1 a1 zs c1 a2 ys c2 t0 t2 s0 S ((((w3.drewN q).setCell ⟨pw, 3, none⟩ (.slice a2 ys.length c2)).setCell ⟨pw, 4, none⟩ (.int .i64 (t2 : Int))).setCell ⟨pw, 5, none⟩ (.int .i64 (S.2 : Int))) := by
  have hbq := below_drewN (Below.refl w3.heap.size w3) q
  have hwant := (hg.block pw (lt_of_heap h.want) (by simpa using hw1)).trans h.want
  have hrds := (hg.block pr (lt_of_heap h.rds) (by simpa using hr1)).trans h.rds
  have hwq : (w3.drewN q).heap[pw]? = _ := hwant
  have hrq : (w3.drewN q).heap[pr]? = _ := hrds
  have hgr := grownHigh (w3.drewN q) pw (.slice a2 ys.length c2) (.int .i64 (t2 : Int)) (.int .i64 (S.2 : Int))
  have hb3 : Below w2.heap.size w2 w3 := h.bel.grown hg h.bel.size (fun i e => by cases e; exact hge1)
  have hb := (below_drewN hb3 q).grown hgr (below_drewN hb3 q).size (fun i e => by cases e; exact hgew)
  have hr0 := keep h.r0 h.r1 (fun e => h01 e.symm) hg
  exact ⟨(hr0.below hbq).far hwq (six_no8 _ _ _ _ _ _ _ _ _ _) (fun e => hw0 e.symm) hgr, (hR.below hbq).far hwq (six_no8 _ _ _ _ _ _ _ _ _ _) (fun e => hw1 e.symm) hgr, hi0.again h.i0 hb, hi1.again hI hb, setHigh hwq _ _ _, (hgr.block pr (lt_of_heap hrq) (by simpa using hrw)).trans hrq, hb⟩
end

set_option maxRecDepth 100000 in
set_option maxHeartbeats 4000000 in
theorem walk (a : Option Addr) (ca : Nat) (zs : List Nat) (b : Option Addr) (cb : Nat) (ys : List Nat) (c : Option Addr) (n cc : Nat) (A : Nat → Nat → Int) (w : World) (ha : Came8 w a ca zs) (hb : Came8 w b cb ys) (hc : CameS w c n A) :
    Calls Try.prog 7 #[.slice a zs.length ca, .slice b ys.length cb, .slice c n cc] w fun e w' => e = .returned (.bool true) ∧ Below w.heap.size w w' := by
  have hn := hc.size
  have hzl := ha.size
  have hyl := hb.size
  have hop := ropen_any a ca zs w ha.row ha.all (by omega) ha.none
  have HC := hide_it hc
  have HA := hide_it ha
  have HB := hide_it hb
  clear ha hb hc
  go_enter Try.func7, Try.ntmps7
  go_wp2_with fail
  refine hop.mono ?_
  rintro e w1 ⟨a1, c1, rfl, hI1, hb1⟩
  have hop2 := ropen_any b cb ys w1 (HB.out.row.below hb1) HB.out.all (by omega) HB.out.none
  clear hop
  go_wp2_with fail
  refine hop2.mono ?_
  rintro e w2 ⟨a2, c2, rfl, hI2, hb2⟩
  unfold refV
  have hb02 := hb1.trans (hb2.mono hb1.size)
  have HI1 := hide_it (hI1.below hb2)
  have HI2 := hide_it hI2
  have HB02 := hide_it hb02
  have hnew := heap_alloc_new w2 (.cells #[.slice a1 zs.length c1, .int .i64 0, .int .i64 0, .slice a2 ys.length c2, .int .i64 0, .int .i64 0] 42)
  have hbA : Below w2.heap.size w2 (w2.alloc (.cells #[.slice a1 zs.length c1, .int .i64 0, .int .i64 0, .slice a2 ys.length c2, .int .i64 0, .int .i64 0] 42)) := (Below.refl _ _).alloc (Nat.le_refl _) _
  have ho1 := open_any a ca zs _ (HA.out.row.below (hb02.trans (hbA.mono hb02.size))) HA.out.all (by omega) HA.out.none
  clear hop2 hI1 hI2 hb1 hb2 hb02
  go_wp2_with fail
  refine ho1.mono ?_
  rintro e w3 ⟨p0, rfl, hp0, hr0, hb3⟩
  have hbw3 := hbA.trans (hb3.mono hbA.size)
  have hbw03 := HB02.out.trans (hbw3.mono HB02.out.size)
  have ho2 := open_any b cb ys w3 (HB.out.row.below hbw03) HB.out.all (by omega) HB.out.none
  have hw3 := (hb3.block w2.heap.size (by simp)).trans hnew
  simp only [World.size_alloc] at hp0
  have hp0l := hr0.lt
  clear ho1 hbA hb3 hnew hbw03
  go_wp2_with fail
  refine ho2.mono ?_
  rintro e w4 ⟨p1, rfl, hp1, hr1, hb4⟩
  have hbw4 := hbw3.trans (hb4.mono hbw3.size)
  have hw4 := (hb4.block _ (lt_of_heap hw3)).trans hw3
  have hr04 := hr0.below hb4
  have hp1l := hr1.lt
  have hs4 := hb4.size
  have hbB : Below w4.heap.size w4 (w4.alloc (.cells #[.pointer (some ⟨p0, 0, none⟩), .pointer (some ⟨p1, 0, none⟩)] 44)) := (Below.refl _ _).alloc (Nat.le_refl _) _
  have hbBw := hbw4.trans (hbB.mono hbw4.size)
  have hboth : Both w2 w2.heap.size w4.heap.size p0 p1 a1 zs c1 a2 ys c2 0 0 (zs, 0) (ys, 0) (w4.alloc (.cells #[.pointer (some ⟨p0, 0, none⟩), .pointer (some ⟨p1, 0, none⟩)] 44)) :=
    ⟨hr04.below hbB, hr1.below hbB, HI1.out.again HI1.out hbBw, HI2.out.again HI2.out hbBw, (hbB.block _ (lt_of_heap hw4)).trans hw4, heap_alloc_new w4 _, hbBw⟩
  have HBO := hide_it hboth
  have h01 : p1 ≠ p0 := by omega
  have hw0 : w2.heap.size ≠ p0 := by omega
  have hw1 : w2.heap.size ≠ p1 := by omega
  have hpr0 : w4.heap.size ≠ p0 := by omega
  have hpr1 : w4.heap.size ≠ p1 := by omega
  have hrw : w4.heap.size ≠ w2.heap.size := by omega
  have hge0 : w2.heap.size ≤ p0 := by omega
  have hge1 : w2.heap.size ≤ p1 := by omega
  clear ho2 hbw3 hw3 hr0 hr1 hb4 hbw4 hw4 hr04 hbB hbBw hboth hp0 hp1 hp0l hp1l
  go_wp2_with fail
  refine (fixed_all _).mono ?_
  rintro e w6 ⟨rfl, hb6⟩
  have HB6 := hide_it (HBO.out.below hb6)
  clear HBO hb6 HA HB
  generalize w4.heap.size = pr at *
  generalize hpw : w2.heap.size = pw at *
  have hpl0 : p0 < w6.heap.size := HB6.out.r0.lt
  have hpl1 : p1 < w6.heap.size := HB6.out.r1.lt
  clear hpl0 hpl1
  go_wp2_with fail
  go_loopw [42] (fun i wr => Whole (∃ (k t0 t1 : Nat) (s0 s1 : List Nat × Nat), k ≤ n ∧ i = .int .i64 (k : Int) ∧ s0.1.length ≤ 140737488351232 ∧ s1.1.length ≤ 140737488351232 ∧ Both w2 pw pr p0 p1 a1 zs c1 a2 ys c2 t0 t1 s0 s1 wr)) (fun i _ => n - (intOf i).toNat)
  case atStart => exact ⟨⟨0, 0, 0, (zs, 0), (ys, 0), by omega, rfl, hzl, hyl, HB6.out⟩⟩
  case round =>
    obtain ⟨k, t0, t1, s0, s1, hk, rfl, hst0, hst1, hB⟩ := hrel.h
    clear HB6
    by_cases hlt : k < n
    · have hbw := HB02.out.trans (hB.bel.mono (by have := HB02.out.size; omega))
      obtain ⟨b9, o9, rfl, hbw9, hcc⟩ := (HC.out.row.below hbw).here hlt
      have e0 := hcc k hlt 0 (by omega)
      have e1 := hcc k hlt 1 (by omega)
      have e2 := hcc k hlt 2 (by omega)
      have e3 := hcc k hlt 3 (by omega)
      rw [Nat.add_zero] at e0
      have b1 := HC.out.all k 1
      have b2 := HC.out.all k 2
      have b3 := HC.out.all k 3
      have hi1 : (k : Int) < (n : Int) := by omega
      clear hcc hbw
      generalize A k 0 = x0 at *
      generalize A k 1 = x1 at *
      generalize A k 2 = x2 at *
      generalize A k 3 = x3 at *
      have hbx := box_below wr x0 x1 x2 x3
      have hB0 := hB.below hbx
      have hlp0 := hB.r0.lt
      have hlp1 := hB.r1.lt
      have f0 : (boxW wr x0 x1 x2 x3).cell? ⟨wr.heap.size, 0, none⟩ = some (.int .i64 x0) := by rw [cell_of_row _ _ _ _ _ _ (heap_alloc_new wr _)]; rfl
      have f1 : (boxW wr x0 x1 x2 x3).cell? ⟨wr.heap.size, 1, none⟩ = some (.int .i64 x1) := by rw [cell_of_row _ _ _ _ _ _ (heap_alloc_new wr _)]; rfl
      have f2 : (boxW wr x0 x1 x2 x3).cell? ⟨wr.heap.size, 2, none⟩ = some (.int .i64 x2) := by rw [cell_of_row _ _ _ _ _ _ (heap_alloc_new wr _)]; rfl
      have f3 : (boxW wr x0 x1 x2 x3).cell? ⟨wr.heap.size, 3, none⟩ = some (.int .i64 x3) := by rw [cell_of_row _ _ _ _ _ _ (heap_alloc_new wr _)]; rfl
      obtain ⟨W0, hW0⟩ : ∃ W0, W0 = boxW wr x0 x1 x2 x3 := ⟨_, rfl⟩
      have hs0 : W0.heap.size = wr.heap.size + 1 := by rw [hW0]; simp
      rw [← hW0] at hB0 f0 f1 f2 f3
      unfold boxW at hW0
      have hlw := lt_of_heap hB0.want
      have hlr := lt_of_heap hB0.rds
      have hlx : wr.heap.size < W0.heap.size := by omega
      have HW0 := hide_it hW0
      clear hB hbx hW0
      have HH := hide_it (And.intro hB0 (And.intro f0 (And.intro f1 (And.intro f2 f3))))
      clear hB0 f0 f1 f2 f3
      have hpar : k % 2 = 0 ∨ k % 2 = 1 := by omega
      go_wp2_with fail
      rw [← HW0.out]
      obtain ⟨hB0, f0, f1, f2, f3⟩ := HH.out
      clear HH HW0 e0 e1 e2 e3
      rcases hpar with hpar | hpar
      · have hki : (k : Int) % 2 = 0 := by omega
        have hkt : (k : Int).tmod 2 = 0 := by rw [Int.tmod_eq_emod_of_nonneg (by omega)]; exact hki
        have hI0 := hB0.i0
        have cw0 : W0.cell? ⟨pw, 0, none⟩ = _ := six_cells hB0.want 0
        have cw1 : W0.cell? ⟨pw, 1, none⟩ = _ := six_cells hB0.want 1
        have cw2 : W0.cell? ⟨pw, 2, none⟩ = _ := six_cells hB0.want 2
        have htold : ∀ W, RefIs W a1 zs c1 t0 s0 → Calls Try.prog 24 #[.agg #[.slice a1 zs.length c1, .int .i64 (t0 : Int), .int .i64 (s0.2 : Int)], .agg #[.int .i64 x0, .int .i64 x1, .int .i64 x2, .int .i64 x3]] W fun e w' => Told a1 zs c1 W (stepOf x0 x1 x2 x3 s0) e w' := fun W h => told_any a1 zs c1 t0 x0 x1 x2 x3 s0 W h b1.1 b1.2 b2.1 b2.2 b3.1 b3.2
        have hlen := step_len x0 x1 x2 x3 s0
        have hans := step_ans x0 x1 x2 x3 s0
        have hstep := fun W h => step_any (some ⟨p0, 0, none⟩) x0 x1 x2 x3 s0 W h (by omega) b1.1 b1.2 b2.1 b2.2 b3.1 b3.2
        obtain ⟨R, hR⟩ : ∃ R, R = stepOf x0 x1 x2 x3 s0 := ⟨_, rfl⟩
        simp only [← hR] at hstep hlen hans htold
        clear hR
        have hZ := heap_alloc_new W0.drew (.cells #[.slice none 0 0, .int .i64 0, .int .i64 0] 42)
        rw [show W0.drew.heap.size = wr.heap.size + 1 from hs0] at hZ
        have HB0 := hide_it hB0
        clear hB0
        go_cut [11, 12, 13] (fun n p x wc => ∃ (g at2 : Nat) (a8 : Option Addr) (c8 : Nat), n = .int .u64 (R.1.1 : Int) ∧ p = .slice a8 R.1.2.length c8 ∧ x = .pointer (some ⟨g, 0, none⟩) ∧ wc.heap[g]? = some (.cells #[.slice a1 zs.length c1, .int .i64 (at2 : Int), .int .i64 (R.2.2 : Int)] 42 (0, 0)) ∧ W0.heap.size ≤ g ∧ RowB wc a8 R.1.2 ∧ RefIs wc a1 zs c1 at2 R.2 ∧ Below W0.heap.size W0 wc)
        case first =>
          refine wp_region_held_drew (S := (fun w' => Below W0.heap.size W0 w')) (by kernel_rfl) ?_ (fun hHeld => ?_)
          · exact (Below.refl _ _).drew
          refine take_on (i := 0) (v := ?_) rfl rfl (by kernel_rfl) (by kernel_rfl) (by kernel_rfl) (fun _ _ _ h => h) rfl ?_ hHeld ?_
          rotate_left
          · (intro wq hSq; have hq0 := (hSq.cell (p := ⟨pw, 0, none⟩) hlw).trans cw0; have hq1 := (hSq.cell (p := ⟨pw, 1, none⟩) hlw).trans cw1; have hq2 := (hSq.cell (p := ⟨pw, 2, none⟩) hlw).trans cw2; have hq3 := (hSq.cell (p := ⟨wr.heap.size, 0, none⟩) hlx).trans f0; have hq4 := (hSq.cell (p := ⟨wr.heap.size, 1, none⟩) hlx).trans f1; have hq5 := (hSq.cell (p := ⟨wr.heap.size, 2, none⟩) hlx).trans f2; have hq6 := (hSq.cell (p := ⟨wr.heap.size, 3, none⟩) hlx).trans f3; go_simp <;> first | with_reducible rfl | rfl)
          simp only [Act.put, List.setIfInBounds_toArray, List.set_cons_zero, List.set_cons_succ]
          refine take_on (i := 1) (v := ?_) rfl rfl (by kernel_rfl) (by kernel_rfl) (by kernel_rfl) (fun _ _ _ h => h) rfl ?_ hHeld ?_
          rotate_left
          · (intro wq hSq; have hq0 := (hSq.cell (p := ⟨pw, 0, none⟩) hlw).trans cw0; have hq1 := (hSq.cell (p := ⟨pw, 1, none⟩) hlw).trans cw1; have hq2 := (hSq.cell (p := ⟨pw, 2, none⟩) hlw).trans cw2; have hq3 := (hSq.cell (p := ⟨wr.heap.size, 0, none⟩) hlx).trans f0; have hq4 := (hSq.cell (p := ⟨wr.heap.size, 1, none⟩) hlx).trans f1; have hq5 := (hSq.cell (p := ⟨wr.heap.size, 2, none⟩) hlx).trans f2; have hq6 := (hSq.cell (p := ⟨wr.heap.size, 3, none⟩) hlx).trans f3; go_simp <;> first | with_reducible rfl | rfl)
          simp only [Act.put, List.setIfInBounds_toArray, List.set_cons_zero, List.set_cons_succ]
          refine take_on (i := 2) (v := ?_) rfl rfl (by kernel_rfl) (by kernel_rfl) (by kernel_rfl) (fun _ _ _ h => h) rfl ?_ hHeld ?_
          rotate_left
          · (intro wq hSq; have hq0 := (hSq.cell (p := ⟨pw, 0, none⟩) hlw).trans cw0; have hq1 := (hSq.cell (p := ⟨pw, 1, none⟩) hlw).trans cw1; have hq2 := (hSq.cell (p := ⟨pw, 2, none⟩) hlw).trans cw2; have hq3 := (hSq.cell (p := ⟨wr.heap.size, 0, none⟩) hlx).trans f0; have hq4 := (hSq.cell (p := ⟨wr.heap.size, 1, none⟩) hlx).trans f1; have hq5 := (hSq.cell (p := ⟨wr.heap.size, 2, none⟩) hlx).trans f2; have hq6 := (hSq.cell (p := ⟨wr.heap.size, 3, none⟩) hlx).trans f3; go_simp <;> first | with_reducible rfl | rfl)
          simp only [Act.put, List.setIfInBounds_toArray, List.set_cons_zero, List.set_cons_succ]
          refine take_on (i := 3) (v := ?_) rfl rfl (by kernel_rfl) (by kernel_rfl) (by kernel_rfl) (fun _ _ _ h => h) rfl ?_ hHeld ?_
          rotate_left
          · (intro wq hSq; have hq0 := (hSq.cell (p := ⟨pw, 0, none⟩) hlw).trans cw0; have hq1 := (hSq.cell (p := ⟨pw, 1, none⟩) hlw).trans cw1; have hq2 := (hSq.cell (p := ⟨pw, 2, none⟩) hlw).trans cw2; have hq3 := (hSq.cell (p := ⟨wr.heap.size, 0, none⟩) hlx).trans f0; have hq4 := (hSq.cell (p := ⟨wr.heap.size, 1, none⟩) hlx).trans f1; have hq5 := (hSq.cell (p := ⟨wr.heap.size, 2, none⟩) hlx).trans f2; have hq6 := (hSq.cell (p := ⟨wr.heap.size, 3, none⟩) hlx).trans f3; go_simp <;> first | with_reducible rfl | rfl)
          simp only [Act.put, List.setIfInBounds_toArray, List.set_cons_zero, List.set_cons_succ]
          refine take_on (i := 4) (v := ?_) rfl rfl (by kernel_rfl) (by kernel_rfl) (by kernel_rfl) (fun _ _ _ h => h) rfl ?_ hHeld ?_
          rotate_left
          · (intro wq hSq; have hq0 := (hSq.cell (p := ⟨pw, 0, none⟩) hlw).trans cw0; have hq1 := (hSq.cell (p := ⟨pw, 1, none⟩) hlw).trans cw1; have hq2 := (hSq.cell (p := ⟨pw, 2, none⟩) hlw).trans cw2; have hq3 := (hSq.cell (p := ⟨wr.heap.size, 0, none⟩) hlx).trans f0; have hq4 := (hSq.cell (p := ⟨wr.heap.size, 1, none⟩) hlx).trans f1; have hq5 := (hSq.cell (p := ⟨wr.heap.size, 2, none⟩) hlx).trans f2; have hq6 := (hSq.cell (p := ⟨wr.heap.size, 3, none⟩) hlx).trans f3; go_simp <;> first | with_reducible rfl | rfl)
          simp only [Act.put, List.setIfInBounds_toArray, List.set_cons_zero, List.set_cons_succ]
          refine take_on (i := 5) (v := ?_) rfl rfl (by kernel_rfl) (by kernel_rfl) (by kernel_rfl) (fun _ _ _ h => h) rfl ?_ hHeld ?_
          rotate_left
          · (intro wq hSq; have hq0 := (hSq.cell (p := ⟨pw, 0, none⟩) hlw).trans cw0; have hq1 := (hSq.cell (p := ⟨pw, 1, none⟩) hlw).trans cw1; have hq2 := (hSq.cell (p := ⟨pw, 2, none⟩) hlw).trans cw2; have hq3 := (hSq.cell (p := ⟨wr.heap.size, 0, none⟩) hlx).trans f0; have hq4 := (hSq.cell (p := ⟨wr.heap.size, 1, none⟩) hlx).trans f1; have hq5 := (hSq.cell (p := ⟨wr.heap.size, 2, none⟩) hlx).trans f2; have hq6 := (hSq.cell (p := ⟨wr.heap.size, 3, none⟩) hlx).trans f3; go_simp <;> first | with_reducible rfl | rfl)
          simp only [Act.put, List.setIfInBounds_toArray, List.set_cons_zero, List.set_cons_succ]
          refine take_two (i := 6) (j := 11) rfl rfl (by kernel_rfl) (fun K hK => ?_) (fun K hK => ?_)
          · go_simp
            refine (htold _ (hI0.below hHeld)).mono ?_; rintro e w8 ⟨at2, a8, c8, rfl, hr8, _, hI8, hb8⟩; unfold refV; have hH8 : Below W0.heap.size W0 w8 := hHeld.trans (hb8.mono hHeld.size)
            try go_wp2_with fail
            refine hK.out _ _ ?_ (fun hHeld => ?_)
            · exact hH8
            clear hK K
            try simp only [Act.put, List.setIfInBounds_toArray, List.set_cons_zero, List.set_cons_succ]
            refine take_on (i := 7) (v := ?_) rfl rfl (by kernel_rfl) (by kernel_rfl) (by kernel_rfl) (fun _ _ _ h => h) rfl ?_ hHeld ?_
            rotate_left
            · (intro wq hSq; have hq0 := (hSq.cell (p := ⟨pw, 0, none⟩) hlw).trans cw0; have hq1 := (hSq.cell (p := ⟨pw, 1, none⟩) hlw).trans cw1; have hq2 := (hSq.cell (p := ⟨pw, 2, none⟩) hlw).trans cw2; have hq3 := (hSq.cell (p := ⟨wr.heap.size, 0, none⟩) hlx).trans f0; have hq4 := (hSq.cell (p := ⟨wr.heap.size, 1, none⟩) hlx).trans f1; have hq5 := (hSq.cell (p := ⟨wr.heap.size, 2, none⟩) hlx).trans f2; have hq6 := (hSq.cell (p := ⟨wr.heap.size, 3, none⟩) hlx).trans f3; go_simp <;> first | with_reducible rfl | rfl)
            simp only [Act.put, List.setIfInBounds_toArray, List.set_cons_zero, List.set_cons_succ]
            refine take_on (i := 8) (v := ?_) rfl rfl (by kernel_rfl) (by kernel_rfl) (by kernel_rfl) (fun _ _ _ h => h) rfl ?_ hHeld ?_
            rotate_left
            · (intro wq hSq; have hq0 := (hSq.cell (p := ⟨pw, 0, none⟩) hlw).trans cw0; have hq1 := (hSq.cell (p := ⟨pw, 1, none⟩) hlw).trans cw1; have hq2 := (hSq.cell (p := ⟨pw, 2, none⟩) hlw).trans cw2; have hq3 := (hSq.cell (p := ⟨wr.heap.size, 0, none⟩) hlx).trans f0; have hq4 := (hSq.cell (p := ⟨wr.heap.size, 1, none⟩) hlx).trans f1; have hq5 := (hSq.cell (p := ⟨wr.heap.size, 2, none⟩) hlx).trans f2; have hq6 := (hSq.cell (p := ⟨wr.heap.size, 3, none⟩) hlx).trans f3; go_simp <;> first | with_reducible rfl | rfl)
            simp only [Act.put, List.setIfInBounds_toArray, List.set_cons_zero, List.set_cons_succ]
            refine take_on (i := 9) (v := ?_) rfl rfl (by kernel_rfl) (by kernel_rfl) (by kernel_rfl) (fun _ _ _ h => h) rfl ?_ hHeld ?_
            rotate_left
            · (intro wq hSq; have hq0 := (hSq.cell (p := ⟨pw, 0, none⟩) hlw).trans cw0; have hq1 := (hSq.cell (p := ⟨pw, 1, none⟩) hlw).trans cw1; have hq2 := (hSq.cell (p := ⟨pw, 2, none⟩) hlw).trans cw2; have hq3 := (hSq.cell (p := ⟨wr.heap.size, 0, none⟩) hlx).trans f0; have hq4 := (hSq.cell (p := ⟨wr.heap.size, 1, none⟩) hlx).trans f1; have hq5 := (hSq.cell (p := ⟨wr.heap.size, 2, none⟩) hlx).trans f2; have hq6 := (hSq.cell (p := ⟨wr.heap.size, 3, none⟩) hlx).trans f3; go_simp <;> first | with_reducible rfl | rfl)
            simp only [Act.put, List.setIfInBounds_toArray, List.set_cons_zero, List.set_cons_succ]
            refine take_on (i := 10) (v := ?_) rfl rfl (by kernel_rfl) (by kernel_rfl) (by kernel_rfl) (fun _ _ _ h => h) rfl ?_ hHeld ?_
            rotate_left
            · (intro wq hSq; have hq0 := (hSq.cell (p := ⟨pw, 0, none⟩) hlw).trans cw0; have hq1 := (hSq.cell (p := ⟨pw, 1, none⟩) hlw).trans cw1; have hq2 := (hSq.cell (p := ⟨pw, 2, none⟩) hlw).trans cw2; have hq3 := (hSq.cell (p := ⟨wr.heap.size, 0, none⟩) hlx).trans f0; have hq4 := (hSq.cell (p := ⟨wr.heap.size, 1, none⟩) hlx).trans f1; have hq5 := (hSq.cell (p := ⟨wr.heap.size, 2, none⟩) hlx).trans f2; have hq6 := (hSq.cell (p := ⟨wr.heap.size, 3, none⟩) hlx).trans f3; go_simp <;> first | with_reducible rfl | rfl)
            simp only [Act.put, List.setIfInBounds_toArray, List.set_cons_zero, List.set_cons_succ]
            refine take_one (i := 11) rfl (by kernel_rfl) (fun K hK => ?_)
            go_simp
            refine hK.out _ _ ?_ (fun hHeld => ?_)
            · exact hHeld.trans (((Below.refl _ _).alloc (Nat.le_refl _) _).mono hHeld.size)
            clear hK K
            try simp only [Act.put, List.setIfInBounds_toArray, List.set_cons_zero, List.set_cons_succ]
            refine take_on (i := 12) (v := ?_) rfl rfl (by kernel_rfl) (by kernel_rfl) (by kernel_rfl) (fun _ _ _ h => h) rfl ?_ hHeld ?_
            rotate_left
            · (intro wq hSq; have hq0 := (hSq.cell (p := ⟨pw, 0, none⟩) hlw).trans cw0; have hq1 := (hSq.cell (p := ⟨pw, 1, none⟩) hlw).trans cw1; have hq2 := (hSq.cell (p := ⟨pw, 2, none⟩) hlw).trans cw2; have hq3 := (hSq.cell (p := ⟨wr.heap.size, 0, none⟩) hlx).trans f0; have hq4 := (hSq.cell (p := ⟨wr.heap.size, 1, none⟩) hlx).trans f1; have hq5 := (hSq.cell (p := ⟨wr.heap.size, 2, none⟩) hlx).trans f2; have hq6 := (hSq.cell (p := ⟨wr.heap.size, 3, none⟩) hlx).trans f3; go_simp <;> first | with_reducible rfl | rfl)
            simp only [Act.put, List.setIfInBounds_toArray, List.set_cons_zero, List.set_cons_succ]
            refine take_on (i := 13) (v := ?_) rfl rfl (by kernel_rfl) (by kernel_rfl) (by kernel_rfl) (fun _ _ _ h => h) rfl ?_ hHeld ?_
            rotate_left
            · (intro wq hSq; have hq0 := (hSq.cell (p := ⟨pw, 0, none⟩) hlw).trans cw0; have hq1 := (hSq.cell (p := ⟨pw, 1, none⟩) hlw).trans cw1; have hq2 := (hSq.cell (p := ⟨pw, 2, none⟩) hlw).trans cw2; have hq3 := (hSq.cell (p := ⟨wr.heap.size, 0, none⟩) hlx).trans f0; have hq4 := (hSq.cell (p := ⟨wr.heap.size, 1, none⟩) hlx).trans f1; have hq5 := (hSq.cell (p := ⟨wr.heap.size, 2, none⟩) hlx).trans f2; have hq6 := (hSq.cell (p := ⟨wr.heap.size, 3, none⟩) hlx).trans f3; go_simp <;> first | with_reducible rfl | rfl)
            simp only [Act.put, List.setIfInBounds_toArray, List.set_cons_zero, List.set_cons_succ]
            refine take_one (i := 14) rfl (by kernel_rfl) (fun K hK => ?_)
            go_simp
            refine hK.out _ _ ?_ (fun hHeld => ?_)
            · exact hH8.alloc hH8.size _
            clear hK K
            try simp only [Act.put, List.setIfInBounds_toArray, List.set_cons_zero, List.set_cons_succ]
            refine wpAnyH_done (by kernel_rfl) ?_ _
            try go_wp2_with fail
            go_meet
            case rel => exact ⟨w8.heap.size, at2, a8, c8, rfl, rfl, rfl, heap_alloc_new w8 _, hH8.size, hr8.below ((Below.refl _ _).alloc (Nat.le_refl _) _), hI8.below ((Below.refl _ _).alloc (Nat.le_refl _) _), hHeld⟩
          · go_simp
            refine hK.out _ _ ?_ (fun hHeld => ?_)
            · exact hHeld.trans (((Below.refl _ _).alloc (Nat.le_refl _) _).mono hHeld.size)
            clear hK K
            try simp only [Act.put, List.setIfInBounds_toArray, List.set_cons_zero, List.set_cons_succ]
            refine take_one (i := 6) rfl (by kernel_rfl) (fun K hK => ?_)
            go_simp
            refine (htold _ (hI0.below hHeld)).mono ?_; rintro e w8 ⟨at2, a8, c8, rfl, hr8, _, hI8, hb8⟩; unfold refV; have hH8 : Below W0.heap.size W0 w8 := hHeld.trans (hb8.mono hHeld.size); have j1 : w8.heap[wr.heap.size + 1]? = some (.cells #[.slice none 0 0, .int .i64 0, .int .i64 0] 42 (0, 0)) := (hb8.block (wr.heap.size + 1) (by simp [hs0])).trans hZ; obtain ⟨y0, y1, y2⟩ := three_cells j1; obtain ⟨z0, z1, z2⟩ := three_soft j1; have HJ := hide_it j1; clear j1
            try go_wp2_with fail
            refine hK.out _ _ ?_ (fun hHeld => ?_)
            · exact hH8
            clear hK K
            try simp only [Act.put, List.setIfInBounds_toArray, List.set_cons_zero, List.set_cons_succ]
            refine take_on (i := 7) (v := ?_) rfl rfl (by kernel_rfl) (by kernel_rfl) (by kernel_rfl) (fun _ _ _ h => h) rfl ?_ hHeld ?_
            rotate_left
            · (intro wq hSq; have hq0 := (hSq.cell (p := ⟨pw, 0, none⟩) hlw).trans cw0; have hq1 := (hSq.cell (p := ⟨pw, 1, none⟩) hlw).trans cw1; have hq2 := (hSq.cell (p := ⟨pw, 2, none⟩) hlw).trans cw2; have hq3 := (hSq.cell (p := ⟨wr.heap.size, 0, none⟩) hlx).trans f0; have hq4 := (hSq.cell (p := ⟨wr.heap.size, 1, none⟩) hlx).trans f1; have hq5 := (hSq.cell (p := ⟨wr.heap.size, 2, none⟩) hlx).trans f2; have hq6 := (hSq.cell (p := ⟨wr.heap.size, 3, none⟩) hlx).trans f3; go_simp <;> first | with_reducible rfl | rfl)
            simp only [Act.put, List.setIfInBounds_toArray, List.set_cons_zero, List.set_cons_succ]
            refine take_on (i := 8) (v := ?_) rfl rfl (by kernel_rfl) (by kernel_rfl) (by kernel_rfl) (fun _ _ _ h => h) rfl ?_ hHeld ?_
            rotate_left
            · (intro wq hSq; have hq0 := (hSq.cell (p := ⟨pw, 0, none⟩) hlw).trans cw0; have hq1 := (hSq.cell (p := ⟨pw, 1, none⟩) hlw).trans cw1; have hq2 := (hSq.cell (p := ⟨pw, 2, none⟩) hlw).trans cw2; have hq3 := (hSq.cell (p := ⟨wr.heap.size, 0, none⟩) hlx).trans f0; have hq4 := (hSq.cell (p := ⟨wr.heap.size, 1, none⟩) hlx).trans f1; have hq5 := (hSq.cell (p := ⟨wr.heap.size, 2, none⟩) hlx).trans f2; have hq6 := (hSq.cell (p := ⟨wr.heap.size, 3, none⟩) hlx).trans f3; go_simp <;> first | with_reducible rfl | rfl)
            simp only [Act.put, List.setIfInBounds_toArray, List.set_cons_zero, List.set_cons_succ]
            refine take_on (i := 9) (v := ?_) rfl rfl (by kernel_rfl) (by kernel_rfl) (by kernel_rfl) (fun _ _ _ h => h) rfl ?_ hHeld ?_
            rotate_left
            · (intro wq hSq; have hq0 := (hSq.cell (p := ⟨pw, 0, none⟩) hlw).trans cw0; have hq1 := (hSq.cell (p := ⟨pw, 1, none⟩) hlw).trans cw1; have hq2 := (hSq.cell (p := ⟨pw, 2, none⟩) hlw).trans cw2; have hq3 := (hSq.cell (p := ⟨wr.heap.size, 0, none⟩) hlx).trans f0; have hq4 := (hSq.cell (p := ⟨wr.heap.size, 1, none⟩) hlx).trans f1; have hq5 := (hSq.cell (p := ⟨wr.heap.size, 2, none⟩) hlx).trans f2; have hq6 := (hSq.cell (p := ⟨wr.heap.size, 3, none⟩) hlx).trans f3; go_simp <;> first | with_reducible rfl | rfl)
            simp only [Act.put, List.setIfInBounds_toArray, List.set_cons_zero, List.set_cons_succ]
            refine take_on (i := 10) (v := ?_) rfl rfl (by kernel_rfl) (by kernel_rfl) (by kernel_rfl) (fun _ _ _ h => h) rfl ?_ hHeld ?_
            rotate_left
            · (intro wq hSq; have hq0 := (hSq.cell (p := ⟨pw, 0, none⟩) hlw).trans cw0; have hq1 := (hSq.cell (p := ⟨pw, 1, none⟩) hlw).trans cw1; have hq2 := (hSq.cell (p := ⟨pw, 2, none⟩) hlw).trans cw2; have hq3 := (hSq.cell (p := ⟨wr.heap.size, 0, none⟩) hlx).trans f0; have hq4 := (hSq.cell (p := ⟨wr.heap.size, 1, none⟩) hlx).trans f1; have hq5 := (hSq.cell (p := ⟨wr.heap.size, 2, none⟩) hlx).trans f2; have hq6 := (hSq.cell (p := ⟨wr.heap.size, 3, none⟩) hlx).trans f3; go_simp <;> first | with_reducible rfl | rfl)
            simp only [Act.put, List.setIfInBounds_toArray, List.set_cons_zero, List.set_cons_succ]
            refine take_on (i := 12) (v := ?_) rfl rfl (by kernel_rfl) (by kernel_rfl) (by kernel_rfl) (fun _ _ _ h => h) rfl ?_ hHeld ?_
            rotate_left
            · (intro wq hSq; have hq0 := (hSq.cell (p := ⟨pw, 0, none⟩) hlw).trans cw0; have hq1 := (hSq.cell (p := ⟨pw, 1, none⟩) hlw).trans cw1; have hq2 := (hSq.cell (p := ⟨pw, 2, none⟩) hlw).trans cw2; have hq3 := (hSq.cell (p := ⟨wr.heap.size, 0, none⟩) hlx).trans f0; have hq4 := (hSq.cell (p := ⟨wr.heap.size, 1, none⟩) hlx).trans f1; have hq5 := (hSq.cell (p := ⟨wr.heap.size, 2, none⟩) hlx).trans f2; have hq6 := (hSq.cell (p := ⟨wr.heap.size, 3, none⟩) hlx).trans f3; go_simp <;> first | with_reducible rfl | rfl)
            simp only [Act.put, List.setIfInBounds_toArray, List.set_cons_zero, List.set_cons_succ]
            refine take_on (i := 13) (v := ?_) rfl rfl (by kernel_rfl) (by kernel_rfl) (by kernel_rfl) (fun _ _ _ h => h) rfl ?_ hHeld ?_
            rotate_left
            · (intro wq hSq; have hq0 := (hSq.cell (p := ⟨pw, 0, none⟩) hlw).trans cw0; have hq1 := (hSq.cell (p := ⟨pw, 1, none⟩) hlw).trans cw1; have hq2 := (hSq.cell (p := ⟨pw, 2, none⟩) hlw).trans cw2; have hq3 := (hSq.cell (p := ⟨wr.heap.size, 0, none⟩) hlx).trans f0; have hq4 := (hSq.cell (p := ⟨wr.heap.size, 1, none⟩) hlx).trans f1; have hq5 := (hSq.cell (p := ⟨wr.heap.size, 2, none⟩) hlx).trans f2; have hq6 := (hSq.cell (p := ⟨wr.heap.size, 3, none⟩) hlx).trans f3; go_simp <;> first | with_reducible rfl | rfl)
            simp only [Act.put, List.setIfInBounds_toArray, List.set_cons_zero, List.set_cons_succ]
            refine take_one (i := 14) rfl (by kernel_rfl) (fun K hK => ?_)
            go_simp
            refine hK.out _ _ ?_ (fun hHeld => ?_)
            · exact below3 hH8 (by omega) _ _ _
            clear hK K
            try simp only [Act.put, List.setIfInBounds_toArray, List.set_cons_zero, List.set_cons_succ]
            refine wpAnyH_done (by kernel_rfl) ?_ _
            try go_wp2_with fail
            go_meet
            case rel => exact ⟨wr.heap.size + 1, at2, a8, c8, rfl, rfl, rfl, set3 HJ.out _ _ _, (by omega), hr8.far HJ.out (ref_no8 _ _ _ _ _) (grown3 _ _ _ _ _), hI0.again hI8 hHeld, hHeld⟩
        case rest =>
          obtain ⟨g, at2, a8, c8, rfl, rfl, rfl, hgc, hgw, hrc, hI8, hbc⟩ := hcut
          have fc0 := (hbc.cell (p := ⟨wr.heap.size, 0, none⟩) hlx).trans f0
          have fc1 := (hbc.cell (p := ⟨wr.heap.size, 1, none⟩) hlx).trans f1
          have fc2 := (hbc.cell (p := ⟨wr.heap.size, 2, none⟩) hlx).trans f2
          have fc3 := (hbc.cell (p := ⟨wr.heap.size, 3, none⟩) hlx).trans f3
          have hBc := HB0.out.below hbc
          have crd : wc.cell? ⟨pr, 0, none⟩ = _ := six_cells hBc.rds 0
          have HBd := hBc.below (Below.refl _ _).drew
          have hRd := HBd.r0
          have hsc := hbc.size
          have hlrd : pr < wc.drew.heap.size := lt_of_heap HBd.rds
          have hlxd : wr.heap.size < wc.drew.heap.size := by show _ < wc.heap.size; omega
          have hxp : wr.heap.size ≠ p0 := by omega
          clear htold hbc hBc HB0 hZ f0 f1 f2 f3 cw0 cw1 cw2 hI0
          go_wp2_with fail
          refine wp_region_held_drew (S := (fun w' => w'.cell? ⟨pr, 0, none⟩ = some (.pointer (some ⟨p0, 0, none⟩)) ∧ w'.cell? ⟨wr.heap.size, 0, none⟩ = some (.int .i64 x0) ∧ w'.cell? ⟨wr.heap.size, 1, none⟩ = some (.int .i64 x1) ∧ w'.cell? ⟨wr.heap.size, 2, none⟩ = some (.int .i64 x2) ∧ w'.cell? ⟨wr.heap.size, 3, none⟩ = some (.int .i64 x3))) (by kernel_rfl) ?_ (fun hHeld => ?_)
          · exact ⟨crd, fc0, fc1, fc2, fc3⟩
          refine take_on (i := 0) (v := ?_) rfl rfl (by kernel_rfl) (by kernel_rfl) (by kernel_rfl) (fun _ _ _ h => h) rfl ?_ hHeld ?_
          rotate_left
          · (intro wq hSq; obtain ⟨hq0, hq1, hq2, hq3, hq4⟩ := hSq; go_simp <;> first | with_reducible rfl | rfl)
          simp only [Act.put, List.setIfInBounds_toArray, List.set_cons_zero, List.set_cons_succ]
          refine take_on (i := 1) (v := ?_) rfl rfl (by kernel_rfl) (by kernel_rfl) (by kernel_rfl) (fun _ _ _ h => h) rfl ?_ hHeld ?_
          rotate_left
          · (intro wq hSq; obtain ⟨hq0, hq1, hq2, hq3, hq4⟩ := hSq; go_simp <;> first | with_reducible rfl | rfl)
          simp only [Act.put, List.setIfInBounds_toArray, List.set_cons_zero, List.set_cons_succ]
          refine take_on (i := 2) (v := ?_) rfl rfl (by kernel_rfl) (by kernel_rfl) (by kernel_rfl) (fun _ _ _ h => h) rfl ?_ hHeld ?_
          rotate_left
          · (intro wq hSq; obtain ⟨hq0, hq1, hq2, hq3, hq4⟩ := hSq; go_simp <;> first | with_reducible rfl | rfl)
          simp only [Act.put, List.setIfInBounds_toArray, List.set_cons_zero, List.set_cons_succ]
          refine take_on (i := 3) (v := ?_) rfl rfl (by kernel_rfl) (by kernel_rfl) (by kernel_rfl) (fun _ _ _ h => h) rfl ?_ hHeld ?_
          rotate_left
          · (intro wq hSq; obtain ⟨hq0, hq1, hq2, hq3, hq4⟩ := hSq; go_simp <;> first | with_reducible rfl | rfl)
          simp only [Act.put, List.setIfInBounds_toArray, List.set_cons_zero, List.set_cons_succ]
          refine take_on (i := 4) (v := ?_) rfl rfl (by kernel_rfl) (by kernel_rfl) (by kernel_rfl) (fun _ _ _ h => h) rfl ?_ hHeld ?_
          rotate_left
          · (intro wq hSq; obtain ⟨hq0, hq1, hq2, hq3, hq4⟩ := hSq; go_simp <;> first | with_reducible rfl | rfl)
          simp only [Act.put, List.setIfInBounds_toArray, List.set_cons_zero, List.set_cons_succ]
          refine take_on (i := 5) (v := ?_) rfl rfl (by kernel_rfl) (by kernel_rfl) (by kernel_rfl) (fun _ _ _ h => h) rfl ?_ hHeld ?_
          rotate_left
          · (intro wq hSq; obtain ⟨hq0, hq1, hq2, hq3, hq4⟩ := hSq; go_simp <;> first | with_reducible rfl | rfl)
          simp only [Act.put, List.setIfInBounds_toArray, List.set_cons_zero, List.set_cons_succ]
          refine take_one (i := 6) rfl (by kernel_rfl) (fun K hK => ?_)
          go_simp
          refine (hstep _ hRd).mono ?_; rintro e w10 ⟨⟨a10, c10, rfl, hr10, _⟩, hp10, hg10⟩
          try go_wp2_with fail
          refine hK.out _ _ ?_ (fun hHeld => ?_)
          · exact ⟨cell_kept hHeld.1 hlrd hpr0 hg10, cell_kept hHeld.2.1 hlxd hxp hg10, cell_kept hHeld.2.2.1 hlxd hxp hg10, cell_kept hHeld.2.2.2.1 hlxd hxp hg10, cell_kept hHeld.2.2.2.2 hlxd hxp hg10⟩
          clear hK K
          try simp only [Act.put, List.setIfInBounds_toArray, List.set_cons_zero, List.set_cons_succ]
          refine take_on (i := 7) (v := ?_) rfl rfl (by kernel_rfl) (by kernel_rfl) (by kernel_rfl) (fun _ _ _ h => h) rfl ?_ hHeld ?_
          rotate_left
          · (intro wq hSq; obtain ⟨hq0, hq1, hq2, hq3, hq4⟩ := hSq; go_simp <;> first | with_reducible rfl | rfl)
          simp only [Act.put, List.setIfInBounds_toArray, List.set_cons_zero, List.set_cons_succ]
          refine take_on (i := 8) (v := ?_) rfl rfl (by kernel_rfl) (by kernel_rfl) (by kernel_rfl) (fun _ _ _ h => h) rfl ?_ hHeld ?_
          rotate_left
          · (intro wq hSq; obtain ⟨hq0, hq1, hq2, hq3, hq4⟩ := hSq; go_simp <;> first | with_reducible rfl | rfl)
          simp only [Act.put, List.setIfInBounds_toArray, List.set_cons_zero, List.set_cons_succ]
          refine take_on (i := 9) (v := ?_) rfl rfl (by kernel_rfl) (by kernel_rfl) (by kernel_rfl) (fun _ _ _ h => h) rfl ?_ hHeld ?_
          rotate_left
          · (intro wq hSq; obtain ⟨hq0, hq1, hq2, hq3, hq4⟩ := hSq; go_simp <;> first | with_reducible rfl | rfl)
          simp only [Act.put, List.setIfInBounds_toArray, List.set_cons_zero, List.set_cons_succ]
          refine take_on (i := 10) (v := ?_) rfl rfl (by kernel_rfl) (by kernel_rfl) (by kernel_rfl) (fun _ _ _ h => h) rfl ?_ hHeld ?_
          rotate_left
          · (intro wq hSq; obtain ⟨hq0, hq1, hq2, hq3, hq4⟩ := hSq; go_simp <;> first | with_reducible rfl | rfl)
          simp only [Act.put, List.setIfInBounds_toArray, List.set_cons_zero, List.set_cons_succ]
          refine take_on (i := 11) (v := ?_) rfl rfl (by kernel_rfl) (by kernel_rfl) (by kernel_rfl) (fun _ _ _ h => h) rfl ?_ hHeld ?_
          rotate_left
          · (intro wq hSq; obtain ⟨hq0, hq1, hq2, hq3, hq4⟩ := hSq; go_simp <;> first | with_reducible rfl | rfl)
          simp only [Act.put, List.setIfInBounds_toArray, List.set_cons_zero, List.set_cons_succ]
          refine wpAnyH_done (by kernel_rfl) ?_ _
          have hn10 := (hg10.block g (lt_of_heap hgc) (by show some g ≠ some p0; simp; omega)).trans hgc
          have hw10 := (hg10.block pw (lt_of_heap HBd.want) (by show some pw ≠ some p0; simpa using hw0)).trans HBd.want
          have hr8' := keepRow (hrc.below (Below.refl _ _).drew) hRd hg10
          have hml : R.1.2.length ≤ maxLen := by unfold maxLen; omega
          have heq := equal_any a8 a10 c8 c10 R.1.2 R.1.2 w10 hr8' hr10 hml hml
          have hdd : decide (R.1.2 = R.1.2) = true := decide_eq_true rfl
          rw [hdd] at heq
          have HT0 := fun q11 => (HBd.turn0 hg10 hp10 hI8 q11 h01 hw0 hw1 hpr0 hrw (by omega) (by omega) HI1.out HI2.out)
          obtain ⟨n0, n1, n2⟩ := three_cells hn10
          have q0 := six_cells hw10 0
          have q1 := six_cells hw10 1
          have q2 := six_cells hw10 2
          have z0 := frozen_of_row w10 pw 0 _ _ hw10
          have z1 := frozen_of_row w10 pw 1 _ _ hw10
          have z2 := frozen_of_row w10 pw 2 _ _ hw10
          have HT1 := hide_it HT0
          clear hg10 hp10 hw10 hn10 hr8' hr10 hml hdd HT0 HBd hRd hHeld hrc hI8 hgc hstep
          obtain ⟨⟨N, P⟩, S⟩ := R
          go_wp2_with fail
          refine heq.mono ?_
          rintro e w11 ⟨rfl, q11, rfl⟩
          have HT := hide_it (HT1.out q11)
          clear heq HT1
          go_wp2_with fail
          go_roundw
          case rel => exact ⟨⟨k + 1, at2, t1, S, s1, by omega, by go_num, Nat.le_trans hlen hst0, hst1, HT.out⟩⟩
          case measure => simp [intOf]; omega
      · have hki : (k : Int) % 2 = 1 := by omega
        have hkt : (k : Int).tmod 2 = 1 := by rw [Int.tmod_eq_emod_of_nonneg (by omega)]; exact hki
        have hI0 := hB0.i1
        have cw0 : W0.cell? ⟨pw, 3, none⟩ = _ := six_cells hB0.want 3
        have cw1 : W0.cell? ⟨pw, 4, none⟩ = _ := six_cells hB0.want 4
        have cw2 : W0.cell? ⟨pw, 5, none⟩ = _ := six_cells hB0.want 5
        have htold : ∀ W, RefIs W a2 ys c2 t1 s1 → Calls Try.prog 24 #[.agg #[.slice a2 ys.length c2, .int .i64 (t1 : Int), .int .i64 (s1.2 : Int)], .agg #[.int .i64 x0, .int .i64 x1, .int .i64 x2, .int .i64 x3]] W fun e w' => Told a2 ys c2 W (stepOf x0 x1 x2 x3 s1) e w' := fun W h => told_any a2 ys c2 t1 x0 x1 x2 x3 s1 W h b1.1 b1.2 b2.1 b2.2 b3.1 b3.2
        have hlen := step_len x0 x1 x2 x3 s1
        have hans := step_ans x0 x1 x2 x3 s1
        have hstep := fun W h => step_any (some ⟨p1, 0, none⟩) x0 x1 x2 x3 s1 W h (by omega) b1.1 b1.2 b2.1 b2.2 b3.1 b3.2
        obtain ⟨R, hR⟩ : ∃ R, R = stepOf x0 x1 x2 x3 s1 := ⟨_, rfl⟩
        simp only [← hR] at hstep hlen hans htold
        clear hR
        have hZ := heap_alloc_new W0.drew (.cells #[.slice none 0 0, .int .i64 0, .int .i64 0] 42)
        rw [show W0.drew.heap.size = wr.heap.size + 1 from hs0] at hZ
        have HB0 := hide_it hB0
        clear hB0
        go_cut [11, 12, 13] (fun n p x wc => ∃ (g at2 : Nat) (a8 : Option Addr) (c8 : Nat), n = .int .u64 (R.1.1 : Int) ∧ p = .slice a8 R.1.2.length c8 ∧ x = .pointer (some ⟨g, 0, none⟩) ∧ wc.heap[g]? = some (.cells #[.slice a2 ys.length c2, .int .i64 (at2 : Int), .int .i64 (R.2.2 : Int)] 42 (0, 0)) ∧ W0.heap.size ≤ g ∧ RowB wc a8 R.1.2 ∧ RefIs wc a2 ys c2 at2 R.2 ∧ Below W0.heap.size W0 wc)
        case first =>
          refine wp_region_held_drew (S := (fun w' => Below W0.heap.size W0 w')) (by kernel_rfl) ?_ (fun hHeld => ?_)
          · exact (Below.refl _ _).drew
          refine take_on (i := 0) (v := ?_) rfl rfl (by kernel_rfl) (by kernel_rfl) (by kernel_rfl) (fun _ _ _ h => h) rfl ?_ hHeld ?_
          rotate_left
          · (intro wq hSq; have hq0 := (hSq.cell (p := ⟨pw, 3, none⟩) hlw).trans cw0; have hq1 := (hSq.cell (p := ⟨pw, 4, none⟩) hlw).trans cw1; have hq2 := (hSq.cell (p := ⟨pw, 5, none⟩) hlw).trans cw2; have hq3 := (hSq.cell (p := ⟨wr.heap.size, 0, none⟩) hlx).trans f0; have hq4 := (hSq.cell (p := ⟨wr.heap.size, 1, none⟩) hlx).trans f1; have hq5 := (hSq.cell (p := ⟨wr.heap.size, 2, none⟩) hlx).trans f2; have hq6 := (hSq.cell (p := ⟨wr.heap.size, 3, none⟩) hlx).trans f3; go_simp <;> first | with_reducible rfl | rfl)
          simp only [Act.put, List.setIfInBounds_toArray, List.set_cons_zero, List.set_cons_succ]
          refine take_on (i := 1) (v := ?_) rfl rfl (by kernel_rfl) (by kernel_rfl) (by kernel_rfl) (fun _ _ _ h => h) rfl ?_ hHeld ?_
          rotate_left
          · (intro wq hSq; have hq0 := (hSq.cell (p := ⟨pw, 3, none⟩) hlw).trans cw0; have hq1 := (hSq.cell (p := ⟨pw, 4, none⟩) hlw).trans cw1; have hq2 := (hSq.cell (p := ⟨pw, 5, none⟩) hlw).trans cw2; have hq3 := (hSq.cell (p := ⟨wr.heap.size, 0, none⟩) hlx).trans f0; have hq4 := (hSq.cell (p := ⟨wr.heap.size, 1, none⟩) hlx).trans f1; have hq5 := (hSq.cell (p := ⟨wr.heap.size, 2, none⟩) hlx).trans f2; have hq6 := (hSq.cell (p := ⟨wr.heap.size, 3, none⟩) hlx).trans f3; go_simp <;> first | with_reducible rfl | rfl)
          simp only [Act.put, List.setIfInBounds_toArray, List.set_cons_zero, List.set_cons_succ]
          refine take_on (i := 2) (v := ?_) rfl rfl (by kernel_rfl) (by kernel_rfl) (by kernel_rfl) (fun _ _ _ h => h) rfl ?_ hHeld ?_
          rotate_left
          · (intro wq hSq; have hq0 := (hSq.cell (p := ⟨pw, 3, none⟩) hlw).trans cw0; have hq1 := (hSq.cell (p := ⟨pw, 4, none⟩) hlw).trans cw1; have hq2 := (hSq.cell (p := ⟨pw, 5, none⟩) hlw).trans cw2; have hq3 := (hSq.cell (p := ⟨wr.heap.size, 0, none⟩) hlx).trans f0; have hq4 := (hSq.cell (p := ⟨wr.heap.size, 1, none⟩) hlx).trans f1; have hq5 := (hSq.cell (p := ⟨wr.heap.size, 2, none⟩) hlx).trans f2; have hq6 := (hSq.cell (p := ⟨wr.heap.size, 3, none⟩) hlx).trans f3; go_simp <;> first | with_reducible rfl | rfl)
          simp only [Act.put, List.setIfInBounds_toArray, List.set_cons_zero, List.set_cons_succ]
          refine take_on (i := 3) (v := ?_) rfl rfl (by kernel_rfl) (by kernel_rfl) (by kernel_rfl) (fun _ _ _ h => h) rfl ?_ hHeld ?_
          rotate_left
          · (intro wq hSq; have hq0 := (hSq.cell (p := ⟨pw, 3, none⟩) hlw).trans cw0; have hq1 := (hSq.cell (p := ⟨pw, 4, none⟩) hlw).trans cw1; have hq2 := (hSq.cell (p := ⟨pw, 5, none⟩) hlw).trans cw2; have hq3 := (hSq.cell (p := ⟨wr.heap.size, 0, none⟩) hlx).trans f0; have hq4 := (hSq.cell (p := ⟨wr.heap.size, 1, none⟩) hlx).trans f1; have hq5 := (hSq.cell (p := ⟨wr.heap.size, 2, none⟩) hlx).trans f2; have hq6 := (hSq.cell (p := ⟨wr.heap.size, 3, none⟩) hlx).trans f3; go_simp <;> first | with_reducible rfl | rfl)
          simp only [Act.put, List.setIfInBounds_toArray, List.set_cons_zero, List.set_cons_succ]
          refine take_on (i := 4) (v := ?_) rfl rfl (by kernel_rfl) (by kernel_rfl) (by kernel_rfl) (fun _ _ _ h => h) rfl ?_ hHeld ?_
          rotate_left
          · (intro wq hSq; have hq0 := (hSq.cell (p := ⟨pw, 3, none⟩) hlw).trans cw0; have hq1 := (hSq.cell (p := ⟨pw, 4, none⟩) hlw).trans cw1; have hq2 := (hSq.cell (p := ⟨pw, 5, none⟩) hlw).trans cw2; have hq3 := (hSq.cell (p := ⟨wr.heap.size, 0, none⟩) hlx).trans f0; have hq4 := (hSq.cell (p := ⟨wr.heap.size, 1, none⟩) hlx).trans f1; have hq5 := (hSq.cell (p := ⟨wr.heap.size, 2, none⟩) hlx).trans f2; have hq6 := (hSq.cell (p := ⟨wr.heap.size, 3, none⟩) hlx).trans f3; go_simp <;> first | with_reducible rfl | rfl)
          simp only [Act.put, List.setIfInBounds_toArray, List.set_cons_zero, List.set_cons_succ]
          refine take_on (i := 5) (v := ?_) rfl rfl (by kernel_rfl) (by kernel_rfl) (by kernel_rfl) (fun _ _ _ h => h) rfl ?_ hHeld ?_
          rotate_left
          · (intro wq hSq; have hq0 := (hSq.cell (p := ⟨pw, 3, none⟩) hlw).trans cw0; have hq1 := (hSq.cell (p := ⟨pw, 4, none⟩) hlw).trans cw1; have hq2 := (hSq.cell (p := ⟨pw, 5, none⟩) hlw).trans cw2; have hq3 := (hSq.cell (p := ⟨wr.heap.size, 0, none⟩) hlx).trans f0; have hq4 := (hSq.cell (p := ⟨wr.heap.size, 1, none⟩) hlx).trans f1; have hq5 := (hSq.cell (p := ⟨wr.heap.size, 2, none⟩) hlx).trans f2; have hq6 := (hSq.cell (p := ⟨wr.heap.size, 3, none⟩) hlx).trans f3; go_simp <;> first | with_reducible rfl | rfl)
          simp only [Act.put, List.setIfInBounds_toArray, List.set_cons_zero, List.set_cons_succ]
          refine take_two (i := 6) (j := 11) rfl rfl (by kernel_rfl) (fun K hK => ?_) (fun K hK => ?_)
          · go_simp
            refine (htold _ (hI0.below hHeld)).mono ?_; rintro e w8 ⟨at2, a8, c8, rfl, hr8, _, hI8, hb8⟩; unfold refV; have hH8 : Below W0.heap.size W0 w8 := hHeld.trans (hb8.mono hHeld.size)
            try go_wp2_with fail
            refine hK.out _ _ ?_ (fun hHeld => ?_)
            · exact hH8
            clear hK K
            try simp only [Act.put, List.setIfInBounds_toArray, List.set_cons_zero, List.set_cons_succ]
            refine take_on (i := 7) (v := ?_) rfl rfl (by kernel_rfl) (by kernel_rfl) (by kernel_rfl) (fun _ _ _ h => h) rfl ?_ hHeld ?_
            rotate_left
            · (intro wq hSq; have hq0 := (hSq.cell (p := ⟨pw, 3, none⟩) hlw).trans cw0; have hq1 := (hSq.cell (p := ⟨pw, 4, none⟩) hlw).trans cw1; have hq2 := (hSq.cell (p := ⟨pw, 5, none⟩) hlw).trans cw2; have hq3 := (hSq.cell (p := ⟨wr.heap.size, 0, none⟩) hlx).trans f0; have hq4 := (hSq.cell (p := ⟨wr.heap.size, 1, none⟩) hlx).trans f1; have hq5 := (hSq.cell (p := ⟨wr.heap.size, 2, none⟩) hlx).trans f2; have hq6 := (hSq.cell (p := ⟨wr.heap.size, 3, none⟩) hlx).trans f3; go_simp <;> first | with_reducible rfl | rfl)
            simp only [Act.put, List.setIfInBounds_toArray, List.set_cons_zero, List.set_cons_succ]
            refine take_on (i := 8) (v := ?_) rfl rfl (by kernel_rfl) (by kernel_rfl) (by kernel_rfl) (fun _ _ _ h => h) rfl ?_ hHeld ?_
            rotate_left
            · (intro wq hSq; have hq0 := (hSq.cell (p := ⟨pw, 3, none⟩) hlw).trans cw0; have hq1 := (hSq.cell (p := ⟨pw, 4, none⟩) hlw).trans cw1; have hq2 := (hSq.cell (p := ⟨pw, 5, none⟩) hlw).trans cw2; have hq3 := (hSq.cell (p := ⟨wr.heap.size, 0, none⟩) hlx).trans f0; have hq4 := (hSq.cell (p := ⟨wr.heap.size, 1, none⟩) hlx).trans f1; have hq5 := (hSq.cell (p := ⟨wr.heap.size, 2, none⟩) hlx).trans f2; have hq6 := (hSq.cell (p := ⟨wr.heap.size, 3, none⟩) hlx).trans f3; go_simp <;> first | with_reducible rfl | rfl)
            simp only [Act.put, List.setIfInBounds_toArray, List.set_cons_zero, List.set_cons_succ]
            refine take_on (i := 9) (v := ?_) rfl rfl (by kernel_rfl) (by kernel_rfl) (by kernel_rfl) (fun _ _ _ h => h) rfl ?_ hHeld ?_
            rotate_left
            · (intro wq hSq; have hq0 := (hSq.cell (p := ⟨pw, 3, none⟩) hlw).trans cw0; have hq1 := (hSq.cell (p := ⟨pw, 4, none⟩) hlw).trans cw1; have hq2 := (hSq.cell (p := ⟨pw, 5, none⟩) hlw).trans cw2; have hq3 := (hSq.cell (p := ⟨wr.heap.size, 0, none⟩) hlx).trans f0; have hq4 := (hSq.cell (p := ⟨wr.heap.size, 1, none⟩) hlx).trans f1; have hq5 := (hSq.cell (p := ⟨wr.heap.size, 2, none⟩) hlx).trans f2; have hq6 := (hSq.cell (p := ⟨wr.heap.size, 3, none⟩) hlx).trans f3; go_simp <;> first | with_reducible rfl | rfl)
            simp only [Act.put, List.setIfInBounds_toArray, List.set_cons_zero, List.set_cons_succ]
            refine take_on (i := 10) (v := ?_) rfl rfl (by kernel_rfl) (by kernel_rfl) (by kernel_rfl) (fun _ _ _ h => h) rfl ?_ hHeld ?_
            rotate_left
            · (intro wq hSq; have hq0 := (hSq.cell (p := ⟨pw, 3, none⟩) hlw).trans cw0; have hq1 := (hSq.cell (p := ⟨pw, 4, none⟩) hlw).trans cw1; have hq2 := (hSq.cell (p := ⟨pw, 5, none⟩) hlw).trans cw2; have hq3 := (hSq.cell (p := ⟨wr.heap.size, 0, none⟩) hlx).trans f0; have hq4 := (hSq.cell (p := ⟨wr.heap.size, 1, none⟩) hlx).trans f1; have hq5 := (hSq.cell (p := ⟨wr.heap.size, 2, none⟩) hlx).trans f2; have hq6 := (hSq.cell (p := ⟨wr.heap.size, 3, none⟩) hlx).trans f3; go_simp <;> first | with_reducible rfl | rfl)
            simp only [Act.put, List.setIfInBounds_toArray, List.set_cons_zero, List.set_cons_succ]
            refine take_one (i := 11) rfl (by kernel_rfl) (fun K hK => ?_)
            go_simp
            refine hK.out _ _ ?_ (fun hHeld => ?_)
            · exact hHeld.trans (((Below.refl _ _).alloc (Nat.le_refl _) _).mono hHeld.size)
            clear hK K
            try simp only [Act.put, List.setIfInBounds_toArray, List.set_cons_zero, List.set_cons_succ]
            refine take_on (i := 12) (v := ?_) rfl rfl (by kernel_rfl) (by kernel_rfl) (by kernel_rfl) (fun _ _ _ h => h) rfl ?_ hHeld ?_
            rotate_left
            · (intro wq hSq; have hq0 := (hSq.cell (p := ⟨pw, 3, none⟩) hlw).trans cw0; have hq1 := (hSq.cell (p := ⟨pw, 4, none⟩) hlw).trans cw1; have hq2 := (hSq.cell (p := ⟨pw, 5, none⟩) hlw).trans cw2; have hq3 := (hSq.cell (p := ⟨wr.heap.size, 0, none⟩) hlx).trans f0; have hq4 := (hSq.cell (p := ⟨wr.heap.size, 1, none⟩) hlx).trans f1; have hq5 := (hSq.cell (p := ⟨wr.heap.size, 2, none⟩) hlx).trans f2; have hq6 := (hSq.cell (p := ⟨wr.heap.size, 3, none⟩) hlx).trans f3; go_simp <;> first | with_reducible rfl | rfl)
            simp only [Act.put, List.setIfInBounds_toArray, List.set_cons_zero, List.set_cons_succ]
            refine take_on (i := 13) (v := ?_) rfl rfl (by kernel_rfl) (by kernel_rfl) (by kernel_rfl) (fun _ _ _ h => h) rfl ?_ hHeld ?_
            rotate_left
            · (intro wq hSq; have hq0 := (hSq.cell (p := ⟨pw, 3, none⟩) hlw).trans cw0; have hq1 := (hSq.cell (p := ⟨pw, 4, none⟩) hlw).trans cw1; have hq2 := (hSq.cell (p := ⟨pw, 5, none⟩) hlw).trans cw2; have hq3 := (hSq.cell (p := ⟨wr.heap.size, 0, none⟩) hlx).trans f0; have hq4 := (hSq.cell (p := ⟨wr.heap.size, 1, none⟩) hlx).trans f1; have hq5 := (hSq.cell (p := ⟨wr.heap.size, 2, none⟩) hlx).trans f2; have hq6 := (hSq.cell (p := ⟨wr.heap.size, 3, none⟩) hlx).trans f3; go_simp <;> first | with_reducible rfl | rfl)
            simp only [Act.put, List.setIfInBounds_toArray, List.set_cons_zero, List.set_cons_succ]
            refine take_one (i := 14) rfl (by kernel_rfl) (fun K hK => ?_)
            go_simp
            refine hK.out _ _ ?_ (fun hHeld => ?_)
            · exact hH8.alloc hH8.size _
            clear hK K
            try simp only [Act.put, List.setIfInBounds_toArray, List.set_cons_zero, List.set_cons_succ]
            refine wpAnyH_done (by kernel_rfl) ?_ _
            try go_wp2_with fail
            go_meet
            case rel => exact ⟨w8.heap.size, at2, a8, c8, rfl, rfl, rfl, heap_alloc_new w8 _, hH8.size, hr8.below ((Below.refl _ _).alloc (Nat.le_refl _) _), hI8.below ((Below.refl _ _).alloc (Nat.le_refl _) _), hHeld⟩
          · go_simp
            refine hK.out _ _ ?_ (fun hHeld => ?_)
            · exact hHeld.trans (((Below.refl _ _).alloc (Nat.le_refl _) _).mono hHeld.size)
            clear hK K
            try simp only [Act.put, List.setIfInBounds_toArray, List.set_cons_zero, List.set_cons_succ]
            refine take_one (i := 6) rfl (by kernel_rfl) (fun K hK => ?_)
            go_simp
            refine (htold _ (hI0.below hHeld)).mono ?_; rintro e w8 ⟨at2, a8, c8, rfl, hr8, _, hI8, hb8⟩; unfold refV; have hH8 : Below W0.heap.size W0 w8 := hHeld.trans (hb8.mono hHeld.size); have j1 : w8.heap[wr.heap.size + 1]? = some (.cells #[.slice none 0 0, .int .i64 0, .int .i64 0] 42 (0, 0)) := (hb8.block (wr.heap.size + 1) (by simp [hs0])).trans hZ; obtain ⟨y0, y1, y2⟩ := three_cells j1; obtain ⟨z0, z1, z2⟩ := three_soft j1; have HJ := hide_it j1; clear j1
            try go_wp2_with fail
            refine hK.out _ _ ?_ (fun hHeld => ?_)
            · exact hH8
            clear hK K
            try simp only [Act.put, List.setIfInBounds_toArray, List.set_cons_zero, List.set_cons_succ]
            refine take_on (i := 7) (v := ?_) rfl rfl (by kernel_rfl) (by kernel_rfl) (by kernel_rfl) (fun _ _ _ h => h) rfl ?_ hHeld ?_
            rotate_left
            · (intro wq hSq; have hq0 := (hSq.cell (p := ⟨pw, 3, none⟩) hlw).trans cw0; have hq1 := (hSq.cell (p := ⟨pw, 4, none⟩) hlw).trans cw1; have hq2 := (hSq.cell (p := ⟨pw, 5, none⟩) hlw).trans cw2; have hq3 := (hSq.cell (p := ⟨wr.heap.size, 0, none⟩) hlx).trans f0; have hq4 := (hSq.cell (p := ⟨wr.heap.size, 1, none⟩) hlx).trans f1; have hq5 := (hSq.cell (p := ⟨wr.heap.size, 2, none⟩) hlx).trans f2; have hq6 := (hSq.cell (p := ⟨wr.heap.size, 3, none⟩) hlx).trans f3; go_simp <;> first | with_reducible rfl | rfl)
            simp only [Act.put, List.setIfInBounds_toArray, List.set_cons_zero, List.set_cons_succ]
            refine take_on (i := 8) (v := ?_) rfl rfl (by kernel_rfl) (by kernel_rfl) (by kernel_rfl) (fun _ _ _ h => h) rfl ?_ hHeld ?_
            rotate_left
            · (intro wq hSq; have hq0 := (hSq.cell (p := ⟨pw, 3, none⟩) hlw).trans cw0; have hq1 := (hSq.cell (p := ⟨pw, 4, none⟩) hlw).trans cw1; have hq2 := (hSq.cell (p := ⟨pw, 5, none⟩) hlw).trans cw2; have hq3 := (hSq.cell (p := ⟨wr.heap.size, 0, none⟩) hlx).trans f0; have hq4 := (hSq.cell (p := ⟨wr.heap.size, 1, none⟩) hlx).trans f1; have hq5 := (hSq.cell (p := ⟨wr.heap.size, 2, none⟩) hlx).trans f2; have hq6 := (hSq.cell (p := ⟨wr.heap.size, 3, none⟩) hlx).trans f3; go_simp <;> first | with_reducible rfl | rfl)
            simp only [Act.put, List.setIfInBounds_toArray, List.set_cons_zero, List.set_cons_succ]
            refine take_on (i := 9) (v := ?_) rfl rfl (by kernel_rfl) (by kernel_rfl) (by kernel_rfl) (fun _ _ _ h => h) rfl ?_ hHeld ?_
            rotate_left
            · (intro wq hSq; have hq0 := (hSq.cell (p := ⟨pw, 3, none⟩) hlw).trans cw0; have hq1 := (hSq.cell (p := ⟨pw, 4, none⟩) hlw).trans cw1; have hq2 := (hSq.cell (p := ⟨pw, 5, none⟩) hlw).trans cw2; have hq3 := (hSq.cell (p := ⟨wr.heap.size, 0, none⟩) hlx).trans f0; have hq4 := (hSq.cell (p := ⟨wr.heap.size, 1, none⟩) hlx).trans f1; have hq5 := (hSq.cell (p := ⟨wr.heap.size, 2, none⟩) hlx).trans f2; have hq6 := (hSq.cell (p := ⟨wr.heap.size, 3, none⟩) hlx).trans f3; go_simp <;> first | with_reducible rfl | rfl)
            simp only [Act.put, List.setIfInBounds_toArray, List.set_cons_zero, List.set_cons_succ]
            refine take_on (i := 10) (v := ?_) rfl rfl (by kernel_rfl) (by kernel_rfl) (by kernel_rfl) (fun _ _ _ h => h) rfl ?_ hHeld ?_
            rotate_left
            · (intro wq hSq; have hq0 := (hSq.cell (p := ⟨pw, 3, none⟩) hlw).trans cw0; have hq1 := (hSq.cell (p := ⟨pw, 4, none⟩) hlw).trans cw1; have hq2 := (hSq.cell (p := ⟨pw, 5, none⟩) hlw).trans cw2; have hq3 := (hSq.cell (p := ⟨wr.heap.size, 0, none⟩) hlx).trans f0; have hq4 := (hSq.cell (p := ⟨wr.heap.size, 1, none⟩) hlx).trans f1; have hq5 := (hSq.cell (p := ⟨wr.heap.size, 2, none⟩) hlx).trans f2; have hq6 := (hSq.cell (p := ⟨wr.heap.size, 3, none⟩) hlx).trans f3; go_simp <;> first | with_reducible rfl | rfl)
            simp only [Act.put, List.setIfInBounds_toArray, List.set_cons_zero, List.set_cons_succ]
            refine take_on (i := 12) (v := ?_) rfl rfl (by kernel_rfl) (by kernel_rfl) (by kernel_rfl) (fun _ _ _ h => h) rfl ?_ hHeld ?_
            rotate_left
            · (intro wq hSq; have hq0 := (hSq.cell (p := ⟨pw, 3, none⟩) hlw).trans cw0; have hq1 := (hSq.cell (p := ⟨pw, 4, none⟩) hlw).trans cw1; have hq2 := (hSq.cell (p := ⟨pw, 5, none⟩) hlw).trans cw2; have hq3 := (hSq.cell (p := ⟨wr.heap.size, 0, none⟩) hlx).trans f0; have hq4 := (hSq.cell (p := ⟨wr.heap.size, 1, none⟩) hlx).trans f1; have hq5 := (hSq.cell (p := ⟨wr.heap.size, 2, none⟩) hlx).trans f2; have hq6 := (hSq.cell (p := ⟨wr.heap.size, 3, none⟩) hlx).trans f3; go_simp <;> first | with_reducible rfl | rfl)
            simp only [Act.put, List.setIfInBounds_toArray, List.set_cons_zero, List.set_cons_succ]
            refine take_on (i := 13) (v := ?_) rfl rfl (by kernel_rfl) (by kernel_rfl) (by kernel_rfl) (fun _ _ _ h => h) rfl ?_ hHeld ?_
            rotate_left
            · (intro wq hSq; have hq0 := (hSq.cell (p := ⟨pw, 3, none⟩) hlw).trans cw0; have hq1 := (hSq.cell (p := ⟨pw, 4, none⟩) hlw).trans cw1; have hq2 := (hSq.cell (p := ⟨pw, 5, none⟩) hlw).trans cw2; have hq3 := (hSq.cell (p := ⟨wr.heap.size, 0, none⟩) hlx).trans f0; have hq4 := (hSq.cell (p := ⟨wr.heap.size, 1, none⟩) hlx).trans f1; have hq5 := (hSq.cell (p := ⟨wr.heap.size, 2, none⟩) hlx).trans f2; have hq6 := (hSq.cell (p := ⟨wr.heap.size, 3, none⟩) hlx).trans f3; go_simp <;> first | with_reducible rfl | rfl)
            simp only [Act.put, List.setIfInBounds_toArray, List.set_cons_zero, List.set_cons_succ]
            refine take_one (i := 14) rfl (by kernel_rfl) (fun K hK => ?_)
            go_simp
            refine hK.out _ _ ?_ (fun hHeld => ?_)
            · exact below3 hH8 (by omega) _ _ _
            clear hK K
            try simp only [Act.put, List.setIfInBounds_toArray, List.set_cons_zero, List.set_cons_succ]
            refine wpAnyH_done (by kernel_rfl) ?_ _
            try go_wp2_with fail
            go_meet
            case rel => exact ⟨wr.heap.size + 1, at2, a8, c8, rfl, rfl, rfl, set3 HJ.out _ _ _, (by omega), hr8.far HJ.out (ref_no8 _ _ _ _ _) (grown3 _ _ _ _ _), hI0.again hI8 hHeld, hHeld⟩
        case rest =>
          obtain ⟨g, at2, a8, c8, rfl, rfl, rfl, hgc, hgw, hrc, hI8, hbc⟩ := hcut
          have fc0 := (hbc.cell (p := ⟨wr.heap.size, 0, none⟩) hlx).trans f0
          have fc1 := (hbc.cell (p := ⟨wr.heap.size, 1, none⟩) hlx).trans f1
          have fc2 := (hbc.cell (p := ⟨wr.heap.size, 2, none⟩) hlx).trans f2
          have fc3 := (hbc.cell (p := ⟨wr.heap.size, 3, none⟩) hlx).trans f3
          have hBc := HB0.out.below hbc
          have crd : wc.cell? ⟨pr, 1, none⟩ = _ := six_cells hBc.rds 1
          have HBd := hBc.below (Below.refl _ _).drew
          have hRd := HBd.r1
          have hsc := hbc.size
          have hlrd : pr < wc.drew.heap.size := lt_of_heap HBd.rds
          have hlxd : wr.heap.size < wc.drew.heap.size := by show _ < wc.heap.size; omega
          have hxp : wr.heap.size ≠ p1 := by omega
          clear htold hbc hBc HB0 hZ f0 f1 f2 f3 cw0 cw1 cw2 hI0
          go_wp2_with fail
          refine wp_region_held_drew (S := (fun w' => w'.cell? ⟨pr, 1, none⟩ = some (.pointer (some ⟨p1, 0, none⟩)) ∧ w'.cell? ⟨wr.heap.size, 0, none⟩ = some (.int .i64 x0) ∧ w'.cell? ⟨wr.heap.size, 1, none⟩ = some (.int .i64 x1) ∧ w'.cell? ⟨wr.heap.size, 2, none⟩ = some (.int .i64 x2) ∧ w'.cell? ⟨wr.heap.size, 3, none⟩ = some (.int .i64 x3))) (by kernel_rfl) ?_ (fun hHeld => ?_)
          · exact ⟨crd, fc0, fc1, fc2, fc3⟩
          refine take_on (i := 0) (v := ?_) rfl rfl (by kernel_rfl) (by kernel_rfl) (by kernel_rfl) (fun _ _ _ h => h) rfl ?_ hHeld ?_
          rotate_left
          · (intro wq hSq; obtain ⟨hq0, hq1, hq2, hq3, hq4⟩ := hSq; go_simp <;> first | with_reducible rfl | rfl)
          simp only [Act.put, List.setIfInBounds_toArray, List.set_cons_zero, List.set_cons_succ]
          refine take_on (i := 1) (v := ?_) rfl rfl (by kernel_rfl) (by kernel_rfl) (by kernel_rfl) (fun _ _ _ h => h) rfl ?_ hHeld ?_
          rotate_left
          · (intro wq hSq; obtain ⟨hq0, hq1, hq2, hq3, hq4⟩ := hSq; go_simp <;> first | with_reducible rfl | rfl)
          simp only [Act.put, List.setIfInBounds_toArray, List.set_cons_zero, List.set_cons_succ]
          refine take_on (i := 2) (v := ?_) rfl rfl (by kernel_rfl) (by kernel_rfl) (by kernel_rfl) (fun _ _ _ h => h) rfl ?_ hHeld ?_
          rotate_left
          · (intro wq hSq; obtain ⟨hq0, hq1, hq2, hq3, hq4⟩ := hSq; go_simp <;> first | with_reducible rfl | rfl)
          simp only [Act.put, List.setIfInBounds_toArray, List.set_cons_zero, List.set_cons_succ]
          refine take_on (i := 3) (v := ?_) rfl rfl (by kernel_rfl) (by kernel_rfl) (by kernel_rfl) (fun _ _ _ h => h) rfl ?_ hHeld ?_
          rotate_left
          · (intro wq hSq; obtain ⟨hq0, hq1, hq2, hq3, hq4⟩ := hSq; go_simp <;> first | with_reducible rfl | rfl)
          simp only [Act.put, List.setIfInBounds_toArray, List.set_cons_zero, List.set_cons_succ]
          refine take_on (i := 4) (v := ?_) rfl rfl (by kernel_rfl) (by kernel_rfl) (by kernel_rfl) (fun _ _ _ h => h) rfl ?_ hHeld ?_
          rotate_left
          · (intro wq hSq; obtain ⟨hq0, hq1, hq2, hq3, hq4⟩ := hSq; go_simp <;> first | with_reducible rfl | rfl)
          simp only [Act.put, List.setIfInBounds_toArray, List.set_cons_zero, List.set_cons_succ]
          refine take_on (i := 5) (v := ?_) rfl rfl (by kernel_rfl) (by kernel_rfl) (by kernel_rfl) (fun _ _ _ h => h) rfl ?_ hHeld ?_
          rotate_left
          · (intro wq hSq; obtain ⟨hq0, hq1, hq2, hq3, hq4⟩ := hSq; go_simp <;> first | with_reducible rfl | rfl)
          simp only [Act.put, List.setIfInBounds_toArray, List.set_cons_zero, List.set_cons_succ]
          refine take_one (i := 6) rfl (by kernel_rfl) (fun K hK => ?_)
          go_simp
          refine (hstep _ hRd).mono ?_; rintro e w10 ⟨⟨a10, c10, rfl, hr10, _⟩, hp10, hg10⟩
          try go_wp2_with fail
          refine hK.out _ _ ?_ (fun hHeld => ?_)
          · exact ⟨cell_kept hHeld.1 hlrd hpr1 hg10, cell_kept hHeld.2.1 hlxd hxp hg10, cell_kept hHeld.2.2.1 hlxd hxp hg10, cell_kept hHeld.2.2.2.1 hlxd hxp hg10, cell_kept hHeld.2.2.2.2 hlxd hxp hg10⟩
          clear hK K
          try simp only [Act.put, List.setIfInBounds_toArray, List.set_cons_zero, List.set_cons_succ]
          refine take_on (i := 7) (v := ?_) rfl rfl (by kernel_rfl) (by kernel_rfl) (by kernel_rfl) (fun _ _ _ h => h) rfl ?_ hHeld ?_
          rotate_left
          · (intro wq hSq; obtain ⟨hq0, hq1, hq2, hq3, hq4⟩ := hSq; go_simp <;> first | with_reducible rfl | rfl)
          simp only [Act.put, List.setIfInBounds_toArray, List.set_cons_zero, List.set_cons_succ]
          refine take_on (i := 8) (v := ?_) rfl rfl (by kernel_rfl) (by kernel_rfl) (by kernel_rfl) (fun _ _ _ h => h) rfl ?_ hHeld ?_
          rotate_left
          · (intro wq hSq; obtain ⟨hq0, hq1, hq2, hq3, hq4⟩ := hSq; go_simp <;> first | with_reducible rfl | rfl)
          simp only [Act.put, List.setIfInBounds_toArray, List.set_cons_zero, List.set_cons_succ]
          refine take_on (i := 9) (v := ?_) rfl rfl (by kernel_rfl) (by kernel_rfl) (by kernel_rfl) (fun _ _ _ h => h) rfl ?_ hHeld ?_
          rotate_left
          · (intro wq hSq; obtain ⟨hq0, hq1, hq2, hq3, hq4⟩ := hSq; go_simp <;> first | with_reducible rfl | rfl)
          simp only [Act.put, List.setIfInBounds_toArray, List.set_cons_zero, List.set_cons_succ]
          refine take_on (i := 10) (v := ?_) rfl rfl (by kernel_rfl) (by kernel_rfl) (by kernel_rfl) (fun _ _ _ h => h) rfl ?_ hHeld ?_
          rotate_left
          · (intro wq hSq; obtain ⟨hq0, hq1, hq2, hq3, hq4⟩ := hSq; go_simp <;> first | with_reducible rfl | rfl)
          simp only [Act.put, List.setIfInBounds_toArray, List.set_cons_zero, List.set_cons_succ]
          refine take_on (i := 11) (v := ?_) rfl rfl (by kernel_rfl) (by kernel_rfl) (by kernel_rfl) (fun _ _ _ h => h) rfl ?_ hHeld ?_
          rotate_left
          · (intro wq hSq; obtain ⟨hq0, hq1, hq2, hq3, hq4⟩ := hSq; go_simp <;> first | with_reducible rfl | rfl)
          simp only [Act.put, List.setIfInBounds_toArray, List.set_cons_zero, List.set_cons_succ]
          refine wpAnyH_done (by kernel_rfl) ?_ _
          have hn10 := (hg10.block g (lt_of_heap hgc) (by show some g ≠ some p1; simp; omega)).trans hgc
          have hw10 := (hg10.block pw (lt_of_heap HBd.want) (by show some pw ≠ some p1; simpa using hw1)).trans HBd.want
          have hr8' := keepRow (hrc.below (Below.refl _ _).drew) hRd hg10
          have hml : R.1.2.length ≤ maxLen := by unfold maxLen; omega
          have heq := equal_any a8 a10 c8 c10 R.1.2 R.1.2 w10 hr8' hr10 hml hml
          have hdd : decide (R.1.2 = R.1.2) = true := decide_eq_true rfl
          rw [hdd] at heq
          have HT0 := fun q11 => (HBd.turn1 hg10 hp10 hI8 q11 h01 hw0 hw1 hpr1 hrw (by omega) (by omega) HI1.out HI2.out)
          obtain ⟨n0, n1, n2⟩ := three_cells hn10
          have q0 := six_cells hw10 3
          have q1 := six_cells hw10 4
          have q2 := six_cells hw10 5
          have z0 := frozen_of_row w10 pw 3 _ _ hw10
          have z1 := frozen_of_row w10 pw 4 _ _ hw10
          have z2 := frozen_of_row w10 pw 5 _ _ hw10
          have HT1 := hide_it HT0
          clear hg10 hp10 hw10 hn10 hr8' hr10 hml hdd HT0 HBd hRd hHeld hrc hI8 hgc hstep
          obtain ⟨⟨N, P⟩, S⟩ := R
          go_wp2_with fail
          refine heq.mono ?_
          rintro e w11 ⟨rfl, q11, rfl⟩
          have HT := hide_it (HT1.out q11)
          clear heq HT1
          go_wp2_with fail
          go_roundw
          case rel => exact ⟨⟨k + 1, t0, at2, s0, S, by omega, by go_num, hst0, Nat.le_trans hlen hst1, HT.out⟩⟩
          case measure => simp [intOf]; omega
    · have hd2 : decide ((k : Int) < (n : Int)) = false := by simp; omega
      go_wp2_with fail
      refine wp_region_held_drew (S := Both w2 pw pr p0 p1 a1 zs c1 a2 ys c2 t0 t1 s0 s1) (by kernel_rfl) ?_ (fun hHeld => ?_)
      · exact hB.below (Below.refl _ _).drew
      refine take_on (i := 0) (v := ?_) rfl rfl (by kernel_rfl) (by kernel_rfl) (by kernel_rfl) (fun _ _ _ h => h) rfl ?_ hHeld ?_
      rotate_left
      · (intro wq hSq; have hq0 := six_cells hSq.rds 0; have hq1 := six_cells hSq.rds 1; have hq2 := six_cells hSq.want 0; have hq3 := six_cells hSq.want 1; have hq4 := six_cells hSq.want 2; have hq5 := six_cells hSq.want 3; have hq6 := six_cells hSq.want 4; have hq7 := six_cells hSq.want 5; go_simp <;> first | with_reducible rfl | rfl)
      simp only [Act.put, List.setIfInBounds_toArray, List.set_cons_zero, List.set_cons_succ]
      refine take_on (i := 1) (v := ?_) rfl rfl (by kernel_rfl) (by kernel_rfl) (by kernel_rfl) (fun _ _ _ h => h) rfl ?_ hHeld ?_
      rotate_left
      · (intro wq hSq; have hq0 := six_cells hSq.rds 0; have hq1 := six_cells hSq.rds 1; have hq2 := six_cells hSq.want 0; have hq3 := six_cells hSq.want 1; have hq4 := six_cells hSq.want 2; have hq5 := six_cells hSq.want 3; have hq6 := six_cells hSq.want 4; have hq7 := six_cells hSq.want 5; go_simp <;> first | with_reducible rfl | rfl)
      simp only [Act.put, List.setIfInBounds_toArray, List.set_cons_zero, List.set_cons_succ]
      refine take_on (i := 2) (v := ?_) rfl rfl (by kernel_rfl) (by kernel_rfl) (by kernel_rfl) (fun _ _ _ h => h) rfl ?_ hHeld ?_
      rotate_left
      · (intro wq hSq; have hq0 := six_cells hSq.rds 0; have hq1 := six_cells hSq.rds 1; have hq2 := six_cells hSq.want 0; have hq3 := six_cells hSq.want 1; have hq4 := six_cells hSq.want 2; have hq5 := six_cells hSq.want 3; have hq6 := six_cells hSq.want 4; have hq7 := six_cells hSq.want 5; go_simp <;> first | with_reducible rfl | rfl)
      simp only [Act.put, List.setIfInBounds_toArray, List.set_cons_zero, List.set_cons_succ]
      refine take_on (i := 4) (v := ?_) rfl rfl (by kernel_rfl) (by kernel_rfl) (by kernel_rfl) (fun _ _ _ h => h) rfl ?_ hHeld ?_
      rotate_left
      · (intro wq hSq; have hq0 := six_cells hSq.rds 0; have hq1 := six_cells hSq.rds 1; have hq2 := six_cells hSq.want 0; have hq3 := six_cells hSq.want 1; have hq4 := six_cells hSq.want 2; have hq5 := six_cells hSq.want 3; have hq6 := six_cells hSq.want 4; have hq7 := six_cells hSq.want 5; go_simp <;> first | with_reducible rfl | rfl)
      simp only [Act.put, List.setIfInBounds_toArray, List.set_cons_zero, List.set_cons_succ]
      refine take_on (i := 5) (v := ?_) rfl rfl (by kernel_rfl) (by kernel_rfl) (by kernel_rfl) (fun _ _ _ h => h) rfl ?_ hHeld ?_
      rotate_left
      · (intro wq hSq; have hq0 := six_cells hSq.rds 0; have hq1 := six_cells hSq.rds 1; have hq2 := six_cells hSq.want 0; have hq3 := six_cells hSq.want 1; have hq4 := six_cells hSq.want 2; have hq5 := six_cells hSq.want 3; have hq6 := six_cells hSq.want 4; have hq7 := six_cells hSq.want 5; go_simp <;> first | with_reducible rfl | rfl)
      simp only [Act.put, List.setIfInBounds_toArray, List.set_cons_zero, List.set_cons_succ]
      refine take_on (i := 6) (v := ?_) rfl rfl (by kernel_rfl) (by kernel_rfl) (by kernel_rfl) (fun _ _ _ h => h) rfl ?_ hHeld ?_
      rotate_left
      · (intro wq hSq; have hq0 := six_cells hSq.rds 0; have hq1 := six_cells hSq.rds 1; have hq2 := six_cells hSq.want 0; have hq3 := six_cells hSq.want 1; have hq4 := six_cells hSq.want 2; have hq5 := six_cells hSq.want 3; have hq6 := six_cells hSq.want 4; have hq7 := six_cells hSq.want 5; go_simp <;> first | with_reducible rfl | rfl)
      simp only [Act.put, List.setIfInBounds_toArray, List.set_cons_zero, List.set_cons_succ]
      refine take_one (i := 3) rfl (by kernel_rfl) (fun K hK => ?_)
      go_simp
      refine (left_st _ _ _ hHeld.r0).mono ?_; rintro e wz ⟨rfl, hq⟩; have hq2 := hq.symm; subst hq2; clear hq
      try go_wp2_with fail
      refine hK.out _ _ ?_ (fun hHeld => ?_)
      · exact hHeld
      clear hK K
      try simp only [Act.put, List.setIfInBounds_toArray, List.set_cons_zero, List.set_cons_succ]
      refine take_one (i := 7) rfl (by kernel_rfl) (fun K hK => ?_)
      go_simp
      refine (rleft_any a1 zs c1 t0 s0 _ hHeld.i0).mono ?_; rintro e wy ⟨rfl, hby⟩; have hSy := hHeld.below hby
      try go_wp2_with fail
      refine hK.out _ _ ?_ (fun hHeld => ?_)
      · exact hSy
      clear hK K
      try simp only [Act.put, List.setIfInBounds_toArray, List.set_cons_zero, List.set_cons_succ]
      refine take_on (i := 8) (v := ?_) rfl rfl (by kernel_rfl) (by kernel_rfl) (by kernel_rfl) (fun _ _ _ h => h) rfl ?_ hHeld ?_
      rotate_left
      · (intro wq hSq; have hq0 := six_cells hSq.rds 0; have hq1 := six_cells hSq.rds 1; have hq2 := six_cells hSq.want 0; have hq3 := six_cells hSq.want 1; have hq4 := six_cells hSq.want 2; have hq5 := six_cells hSq.want 3; have hq6 := six_cells hSq.want 4; have hq7 := six_cells hSq.want 5; go_simp <;> first | with_reducible rfl | rfl)
      simp only [Act.put, List.setIfInBounds_toArray, List.set_cons_zero, List.set_cons_succ]
      refine take_on (i := 9) (v := ?_) rfl rfl (by kernel_rfl) (by kernel_rfl) (by kernel_rfl) (fun _ _ _ h => h) rfl ?_ hHeld ?_
      rotate_left
      · (intro wq hSq; have hq0 := six_cells hSq.rds 0; have hq1 := six_cells hSq.rds 1; have hq2 := six_cells hSq.want 0; have hq3 := six_cells hSq.want 1; have hq4 := six_cells hSq.want 2; have hq5 := six_cells hSq.want 3; have hq6 := six_cells hSq.want 4; have hq7 := six_cells hSq.want 5; go_simp <;> first | with_reducible rfl | rfl)
      simp only [Act.put, List.setIfInBounds_toArray, List.set_cons_zero, List.set_cons_succ]
      refine take_on (i := 10) (v := ?_) rfl rfl (by kernel_rfl) (by kernel_rfl) (by kernel_rfl) (fun _ _ _ h => h) rfl ?_ hHeld ?_
      rotate_left
      · (intro wq hSq; have hq0 := six_cells hSq.rds 0; have hq1 := six_cells hSq.rds 1; have hq2 := six_cells hSq.want 0; have hq3 := six_cells hSq.want 1; have hq4 := six_cells hSq.want 2; have hq5 := six_cells hSq.want 3; have hq6 := six_cells hSq.want 4; have hq7 := six_cells hSq.want 5; go_simp <;> first | with_reducible rfl | rfl)
      simp only [Act.put, List.setIfInBounds_toArray, List.set_cons_zero, List.set_cons_succ]
      refine take_on (i := 11) (v := ?_) rfl rfl (by kernel_rfl) (by kernel_rfl) (by kernel_rfl) (fun _ _ _ h => h) rfl ?_ hHeld ?_
      rotate_left
      · (intro wq hSq; have hq0 := six_cells hSq.rds 0; have hq1 := six_cells hSq.rds 1; have hq2 := six_cells hSq.want 0; have hq3 := six_cells hSq.want 1; have hq4 := six_cells hSq.want 2; have hq5 := six_cells hSq.want 3; have hq6 := six_cells hSq.want 4; have hq7 := six_cells hSq.want 5; go_simp <;> first | with_reducible rfl | rfl)
      simp only [Act.put, List.setIfInBounds_toArray, List.set_cons_zero, List.set_cons_succ]
      refine take_on (i := 12) (v := ?_) rfl rfl (by kernel_rfl) (by kernel_rfl) (by kernel_rfl) (fun _ _ _ h => h) rfl ?_ hHeld ?_
      rotate_left
      · (intro wq hSq; have hq0 := six_cells hSq.rds 0; have hq1 := six_cells hSq.rds 1; have hq2 := six_cells hSq.want 0; have hq3 := six_cells hSq.want 1; have hq4 := six_cells hSq.want 2; have hq5 := six_cells hSq.want 3; have hq6 := six_cells hSq.want 4; have hq7 := six_cells hSq.want 5; go_simp <;> first | with_reducible rfl | rfl)
      simp only [Act.put, List.setIfInBounds_toArray, List.set_cons_zero, List.set_cons_succ]
      refine take_on (i := 14) (v := ?_) rfl rfl (by kernel_rfl) (by kernel_rfl) (by kernel_rfl) (fun _ _ _ h => h) rfl ?_ hHeld ?_
      rotate_left
      · (intro wq hSq; have hq0 := six_cells hSq.rds 0; have hq1 := six_cells hSq.rds 1; have hq2 := six_cells hSq.want 0; have hq3 := six_cells hSq.want 1; have hq4 := six_cells hSq.want 2; have hq5 := six_cells hSq.want 3; have hq6 := six_cells hSq.want 4; have hq7 := six_cells hSq.want 5; go_simp <;> first | with_reducible rfl | rfl)
      simp only [Act.put, List.setIfInBounds_toArray, List.set_cons_zero, List.set_cons_succ]
      refine take_on (i := 15) (v := ?_) rfl rfl (by kernel_rfl) (by kernel_rfl) (by kernel_rfl) (fun _ _ _ h => h) rfl ?_ hHeld ?_
      rotate_left
      · (intro wq hSq; have hq0 := six_cells hSq.rds 0; have hq1 := six_cells hSq.rds 1; have hq2 := six_cells hSq.want 0; have hq3 := six_cells hSq.want 1; have hq4 := six_cells hSq.want 2; have hq5 := six_cells hSq.want 3; have hq6 := six_cells hSq.want 4; have hq7 := six_cells hSq.want 5; go_simp <;> first | with_reducible rfl | rfl)
      simp only [Act.put, List.setIfInBounds_toArray, List.set_cons_zero, List.set_cons_succ]
      refine take_on (i := 16) (v := ?_) rfl rfl (by kernel_rfl) (by kernel_rfl) (by kernel_rfl) (fun _ _ _ h => h) rfl ?_ hHeld ?_
      rotate_left
      · (intro wq hSq; have hq0 := six_cells hSq.rds 0; have hq1 := six_cells hSq.rds 1; have hq2 := six_cells hSq.want 0; have hq3 := six_cells hSq.want 1; have hq4 := six_cells hSq.want 2; have hq5 := six_cells hSq.want 3; have hq6 := six_cells hSq.want 4; have hq7 := six_cells hSq.want 5; go_simp <;> first | with_reducible rfl | rfl)
      simp only [Act.put, List.setIfInBounds_toArray, List.set_cons_zero, List.set_cons_succ]
      refine take_one (i := 13) rfl (by kernel_rfl) (fun K hK => ?_)
      go_simp
      refine (left_st _ _ _ hHeld.r1).mono ?_; rintro e wx ⟨rfl, hq⟩; have hq2 := hq.symm; subst hq2; clear hq
      try go_wp2_with fail
      refine hK.out _ _ ?_ (fun hHeld => ?_)
      · exact hHeld
      clear hK K
      try simp only [Act.put, List.setIfInBounds_toArray, List.set_cons_zero, List.set_cons_succ]
      refine take_one (i := 17) rfl (by kernel_rfl) (fun K hK => ?_)
      go_simp
      refine (rleft_any a2 ys c2 t1 s1 _ hHeld.i1).mono ?_; rintro e wv ⟨rfl, hbv⟩; have hSv := hHeld.below hbv
      try go_wp2_with fail
      refine hK.out _ _ ?_ (fun hHeld => ?_)
      · exact hSv
      clear hK K
      try simp only [Act.put, List.setIfInBounds_toArray, List.set_cons_zero, List.set_cons_succ]
      refine take_on (i := 18) (v := ?_) rfl rfl (by kernel_rfl) (by kernel_rfl) (by kernel_rfl) (fun _ _ _ h => h) rfl ?_ hHeld ?_
      rotate_left
      · (intro wq hSq; have hq0 := six_cells hSq.rds 0; have hq1 := six_cells hSq.rds 1; have hq2 := six_cells hSq.want 0; have hq3 := six_cells hSq.want 1; have hq4 := six_cells hSq.want 2; have hq5 := six_cells hSq.want 3; have hq6 := six_cells hSq.want 4; have hq7 := six_cells hSq.want 5; go_simp <;> first | with_reducible rfl | rfl)
      simp only [Act.put, List.setIfInBounds_toArray, List.set_cons_zero, List.set_cons_succ]
      refine take_on (i := 19) (v := ?_) rfl rfl (by kernel_rfl) (by kernel_rfl) (by kernel_rfl) (fun _ _ _ h => h) rfl ?_ hHeld ?_
      rotate_left
      · (intro wq hSq; have hq0 := six_cells hSq.rds 0; have hq1 := six_cells hSq.rds 1; have hq2 := six_cells hSq.want 0; have hq3 := six_cells hSq.want 1; have hq4 := six_cells hSq.want 2; have hq5 := six_cells hSq.want 3; have hq6 := six_cells hSq.want 4; have hq7 := six_cells hSq.want 5; go_simp <;> first | with_reducible rfl | rfl)
      simp only [Act.put, List.setIfInBounds_toArray, List.set_cons_zero, List.set_cons_succ]
      refine take_on (i := 20) (v := ?_) rfl rfl (by kernel_rfl) (by kernel_rfl) (by kernel_rfl) (fun _ _ _ h => h) rfl ?_ hHeld ?_
      rotate_left
      · (intro wq hSq; have hq0 := six_cells hSq.rds 0; have hq1 := six_cells hSq.rds 1; have hq2 := six_cells hSq.want 0; have hq3 := six_cells hSq.want 1; have hq4 := six_cells hSq.want 2; have hq5 := six_cells hSq.want 3; have hq6 := six_cells hSq.want 4; have hq7 := six_cells hSq.want 5; go_simp <;> first | with_reducible rfl | rfl)
      simp only [Act.put, List.setIfInBounds_toArray, List.set_cons_zero, List.set_cons_succ]
      refine wpAnyH_done (by kernel_rfl) ?_ _
      go_wp2_with fail
      go_ret
      exact ⟨rfl, HB02.out.trans (hHeld.bel.mono HB02.out.size)⟩
end Go.Proofs.Ytfhinodieghklaa.codecTwo
