/- The law that every row of calls of a reader answers what the document says, walked. -/
import Derived.Test.YtfhinodieghklaaOpenS
import Derived.Test.YtfhinodieghklaaRef8
namespace Go.Proofs.Ytfhinodieghklaa.codecReads
open Go.RowKit

/-- The block of bytes of the call's own. -/
def Bytes (w : World) (g n : Nat) : Prop := ∃ cs : Array Value, w.heap[g]? = some (.cells cs 5 (0, 0)) ∧ ∀ i, i < n → ∃ x : Int, cs[i]? = some (.int .u8 x)
theorem Bytes.set {w : World} {g n : Nat} (h : Bytes w g n) (k : Nat) (x : Int) : Bytes (w.setCell ⟨g, k, none⟩ (.int .u8 x)) g n := by
  obtain ⟨cs, hh, hc⟩ := h
  refine ⟨_, heap_setCell_same w g k _ _ _ hh, fun i hi => ?_⟩
  obtain ⟨y, hy⟩ := hc i hi
  by_cases e : k = i
  · subst e
    have hlt := (Array.getElem?_eq_some_iff.1 hy).1
    exact ⟨x, by simp [hlt]⟩
  · exact ⟨y, by simp [e]; exact hy⟩
theorem own_raw {w : World} {base : Nat} {a : Option Addr} {cap : Nat} {zs : List Nat} (h : OwnB w base (.slice a zs.length cap) zs) (hb : base < w.heap.size) : ∃ g : Nat, base ≤ g ∧ g < w.heap.size ∧ (0 < zs.length → a = some ⟨g, 0, none⟩ ∧ Bytes w g zs.length) := by
  obtain ⟨a1, c1, e1, hr, _⟩ := h.row
  cases e1
  rcases h.2 with ⟨_, h2⟩ | ⟨g, cap, cur, e, h3, hh, h4, h5, h6, h7⟩
  · exact ⟨base, Nat.le_refl _, hb, fun h0 => by omega⟩
  · cases e
    refine ⟨g, h3, (Array.getElem?_eq_some_iff.1 hh).1, fun h0 => ⟨rfl, cur, hh, fun i hi => ?_⟩⟩
    rcases hr with h | ⟨b, o, e, hlt, hc⟩
    · omega
    · cases e
      have := hc i hi
      rw [cell_of_row _ _ _ _ _ _ hh, Nat.zero_add] at this
      exact ⟨_, this⟩

/-- What stands through the last statement. -/
def Keeps (w1 : World) (p : Nat) (a1 : Option Addr) (zs : List Nat) (c1 at1 : Nat) (st : List Nat × Nat) (w' : World) : Prop :=
  (Rst w' (some ⟨p, 0, none⟩) st ∧ RefIs w' a1 zs c1 at1 st ∧ Below w1.heap.size w1 w') ∧ w'.cell? ⟨w1.heap.size, 0, none⟩ = some (.slice a1 zs.length c1) ∧ w'.cell? ⟨w1.heap.size, 1, none⟩ = some (.int .i64 (at1 : Int)) ∧ w'.cell? ⟨w1.heap.size, 2, none⟩ = some (.int .i64 (st.2 : Int))
theorem Keeps.next {w1 : World} {p : Nat} {a1 : Option Addr} {zs : List Nat} {c1 at1 : Nat} {st : List Nat × Nat} {w2 w3 : World} (h : Keeps w1 p a1 zs c1 at1 st w2) (hb : Below w2.heap.size w2 w3) : Keeps w1 p a1 zs c1 at1 st w3 := by
  obtain ⟨⟨h1, h2, h3⟩, h4, h5, h6⟩ := h
  have hl : w1.heap.size < w2.heap.size := World.block_lt_of_cell? w2 _ h4
  exact ⟨⟨h1.below hb, h2.below hb, h3.trans (hb.mono h3.size)⟩, (hb.cell (p := ⟨w1.heap.size, 0, none⟩) hl).trans h4, (hb.cell (p := ⟨w1.heap.size, 1, none⟩) hl).trans h5, (hb.cell (p := ⟨w1.heap.size, 2, none⟩) hl).trans h6⟩

set_option maxRecDepth 100000 in
set_option maxHeartbeats 1000000 in
theorem walk (a : Option Addr) (ca : Nat) (zs : List Nat) (c : Option Addr) (n cc : Nat) (A : Nat → Nat → Int) (w : World) (ha : Came8 w a ca zs) (hc : CameS w c n A) :
    Calls Try.prog 6 #[.slice a zs.length ca, .slice c n cc] w fun e w' => e = .returned (.bool true) ∧ Below w.heap.size w w' := by
  have hn := hc.size
  have hzl := ha.size
  have h8 := ha.all
  have hna := ha.none
  have hop := ropen_any a ca zs w ha.row h8 (by omega) hna
  go_enter Try.func6, Try.ntmps6
  go_wp2_with fail
  refine hop.mono ?_
  rintro e w1 ⟨a1, c1, rfl, hI1, hb1⟩
  unfold refV
  have hbx : Below w1.heap.size w1 ((w1.alloc (.cells #[.slice a1 zs.length c1, .int .i64 0, .int .i64 0] 42)).alloc (.cells #[] 5)) := ((Below.refl _ _).alloc (Nat.le_refl _) _).alloc (by simp) _
  have hrx := (ha.row.below hb1).below hbx
  have hoe := own_empty (w1.alloc (.cells #[.slice a1 zs.length c1, .int .i64 0, .int .i64 0] 42))
  simp only [World.size_alloc] at hoe
  have hk1 : ((w1.alloc (.cells #[.slice a1 zs.length c1, .int .i64 0, .int .i64 0] 42)).alloc (.cells #[] 5)).heap[w1.heap.size]? = some (.cells #[.slice a1 zs.length c1, .int .i64 0, .int .i64 0] 42 (0, 0)) := by
    rw [Below.heap_alloc _ _ _ (by simp)]; exact heap_alloc_new w1 _
  have HI1 := hide_it hI1
  have HB1 := hide_it hb1
  have HC := hide_it hc
  clear hop hI1 ha hb1 hc
  go_wp2_with (at_builtin; refine wpList_append_row _ rfl _ _ rfl (w1.heap.size + 1) _ [] rfl hoe a ca zs rfl hrx hna (by simp; omega) (by simp) ?_; intro v3 w3 hown3 hg3 hat3; rw [List.nil_append] at hown3; obtain ⟨a3, c3, hv3, hr3, h31, h32, hn3⟩ := hown3.row; subst hv3)
  have hg4 : ((w1.alloc (.cells #[.slice a1 zs.length c1, .int .i64 0, .int .i64 0] 42)).alloc (.cells #[] 5)).grownBy w3 (some (w1.heap.size + 1)) := hg3
  have hb3 : Below w1.heap.size w1 w3 := hbx.grown hg4 hbx.size (fun j e => by cases e; omega)
  have hj3 : w3.heap[w1.heap.size]? = _ := (hg4.block w1.heap.size (by simp; omega) (by simp)).trans hk1
  have hs3 : w1.heap.size + 1 < w3.heap.size := by have := hg4.size; simp at this; omega
  have hoq := open_own a3 c3 zs w3 hr3 h8 (by omega) hn3
  have HO3 := hide_it hown3
  have HJ3 := hide_it hj3
  have HB3 := hide_it hb3
  clear hown3 hg3 hg4 hat3 hr3 hj3 hb3 hrx hoe hk1 hbx
  refine hoq.mono ?_
  rintro e w4 ⟨p, rfl, hp3, hp4, hup, hb4⟩
  have HUP := hide_it hup
  have HB4 := hide_it hb4
  clear hoq hup hb4
  go_wp2_with fail
  refine (fixed_all _).mono ?_
  rintro e w5 ⟨rfl, hb5⟩
  have HB5 := hide_it hb5
  clear hb5
  go_wp2_with fail
  obtain ⟨g, hg1, hg3, hag⟩ := own_raw HO3.out hs3
  have hw4 := HB4.out.size
  have hw5 := HB5.out.size
  have hag5 : 0 < zs.length → a3 = some ⟨g, 0, none⟩ ∧ Bytes w5 g zs.length := fun h0 => by
    obtain ⟨e, cs, hh, hc⟩ := hag h0
    exact ⟨e, cs, (HB5.out.block g (by omega)).trans ((HB4.out.block g (by omega)).trans hh), hc⟩
  have hbw5 : Below w1.heap.size w1 w5 := (HB3.out.trans (HB4.out.mono (by omega))).trans (HB5.out.mono (by omega))
  clear hag HO3
  go_loopw [31] (fun i wr => ∃ k : Nat, k ≤ zs.length ∧ i = .int .i64 (k : Int) ∧ w5.grownBy wr (some g) ∧ (0 < zs.length → Bytes wr g zs.length)) (fun i _ => zs.length - (intOf i).toNat)
  case atStart => exact ⟨0, by omega, rfl, World.grownBy.refl _ _, fun h0 => (hag5 h0).2⟩
  case round =>
    obtain ⟨k, hk, rfl, hgr, hby⟩ := hrel
    by_cases hlt : k < zs.length
    · obtain ⟨rfl, _⟩ := hag5 (by omega)
      have hbt := hby (by omega)
      obtain ⟨cs, hh, hcs⟩ := hbt
      obtain ⟨x, hx⟩ := hcs k hlt
      have hck : wr.cell? ⟨g, k, none⟩ = some (.int .u8 x) := by rw [cell_of_row _ _ _ _ _ _ hh]; exact hx
      have hfk := frozen_of_row wr g k _ _ hh
      have hd : decide ((k : Int) < (zs.length : Int)) = true := by simp; omega
      have hi1 : (k : Int) < (zs.length : Int) := by omega
      have HG := hide_it hgr
      have HBY := hide_it hby
      clear hgr hby hh hx hcs hag5
      go_wp2_with fail
      go_roundw
      case rel => exact ⟨k + 1, by omega, by go_num, grown_setCell HG.out _ _, fun h0 => (HBY.out h0).set _ _⟩
      case measure => simp [intOf]; omega
    · have hd : decide ((k : Int) < (zs.length : Int)) = false := by simp; omega
      have hup : Rst wr (some ⟨p, 0, none⟩) (zs, 0) := HUP.out wr (by have := hgr.size; omega) (fun k h1 h2 => (hgr.block k (by omega) (by simp; omega)).trans (HB5.out.block k h2))
      have hbr : Below w1.heap.size w1 wr := hbw5.grown hgr hbw5.size (fun j e => by cases e; omega)
      have hjr : wr.heap[w1.heap.size]? = some (.cells #[.slice a1 zs.length c1, .int .i64 0, .int .i64 0] 42 (0, 0)) := (hgr.block w1.heap.size (by omega) (by simp; omega)).trans ((HB5.out.block _ (by omega)).trans ((HB4.out.block _ (by omega)).trans HJ3.out))
      have HU := hide_it hup
      have HBR := hide_it hbr
      have HJR := hide_it hjr
      clear hup hbr hjr hgr hby hag5 HUP HB3 HB4 HB5 HJ3 hbw5
      go_wp2_with fail
      have hp1 : w1.heap.size ≠ p := by omega
      go_loopw [43] (fun i wr => ∃ (k at1 : Nat) (st : List Nat × Nat), k ≤ n ∧ i = .int .i64 (k : Int) ∧ st.1.length ≤ 140737488351232 ∧ Rst wr (some ⟨p, 0, none⟩) st ∧ RefIs wr a1 zs c1 at1 st ∧ wr.heap[w1.heap.size]? = some (.cells #[.slice a1 zs.length c1, .int .i64 (at1 : Int), .int .i64 (st.2 : Int)] 42 (0, 0)) ∧ Below w1.heap.size w1 wr) (fun i _ => n - (intOf i).toNat)
      case atStart => exact ⟨0, 0, (zs, 0), by omega, rfl, hzl, HU.out, HI1.out.again HI1.out HBR.out, HJR.out, HBR.out⟩
      case round =>
        obtain ⟨j, at1, st, hj, rfl, hst, hp, hI, hw, hb7⟩ := hrel
        clear HU HBR HJR
        have hb7w := HB1.out.trans (hb7.mono HB1.out.size)
        obtain ⟨k0, k1, k2⟩ := three_cells hw
        by_cases hlt2 : j < n
        · obtain ⟨b9, o9, rfl, hbw9, hcc⟩ := (HC.out.row.below hb7w).here hlt2
          have e0 := hcc j hlt2 0 (by omega)
          have e1 := hcc j hlt2 1 (by omega)
          have e2 := hcc j hlt2 2 (by omega)
          have e3 := hcc j hlt2 3 (by omega)
          rw [Nat.add_zero] at e0
          have b1 := HC.out.all j 1
          have b2 := HC.out.all j 2
          have b3 := HC.out.all j 3
          have hi1 : (j : Int) < (n : Int) := by omega
          clear hcc
          generalize A j 0 = x0 at *
          generalize A j 1 = x1 at *
          generalize A j 2 = x2 at *
          generalize A j 3 = x3 at *
          have hbx := box_below wr x0 x1 x2 x3
          have hpl := hp.lt
          have hwl := (Array.getElem?_eq_some_iff.1 hw).1
          have htold := told_any a1 zs c1 at1 x0 x1 x2 x3 st (boxW wr x0 x1 x2 x3) (hI.below hbx) b1.1 b1.2 b2.1 b2.2 b3.1 b3.2
          have hlen := step_len x0 x1 x2 x3 st
          have hans := step_ans x0 x1 x2 x3 st
          have hst1 := fun W h => step_any (some ⟨p, 0, none⟩) x0 x1 x2 x3 st W h (by omega) b1.1 b1.2 b2.1 b2.2 b3.1 b3.2
          obtain ⟨R, hR⟩ : ∃ R, R = stepOf x0 x1 x2 x3 st := ⟨_, rfl⟩
          simp only [← hR] at hst1 hlen hans htold
          clear hR
          unfold refV at htold
          have HPX := hide_it (hp.below hbx)
          have HWX := hide_it ((hbx.block _ hwl).trans hw)
          have HBX := hide_it (hb7.trans (hbx.mono hb7.size))
          have f0 : (boxW wr x0 x1 x2 x3).cell? ⟨wr.heap.size, 0, none⟩ = some (.int .i64 x0) := by rw [cell_of_row _ _ _ _ _ _ (heap_alloc_new wr _)]; rfl
          have f1 : (boxW wr x0 x1 x2 x3).cell? ⟨wr.heap.size, 1, none⟩ = some (.int .i64 x1) := by rw [cell_of_row _ _ _ _ _ _ (heap_alloc_new wr _)]; rfl
          have f2 : (boxW wr x0 x1 x2 x3).cell? ⟨wr.heap.size, 2, none⟩ = some (.int .i64 x2) := by rw [cell_of_row _ _ _ _ _ _ (heap_alloc_new wr _)]; rfl
          have f3 : (boxW wr x0 x1 x2 x3).cell? ⟨wr.heap.size, 3, none⟩ = some (.int .i64 x3) := by rw [cell_of_row _ _ _ _ _ _ (heap_alloc_new wr _)]; rfl
          have HF := hide_it (And.intro f0 (And.intro f1 (And.intro f2 f3)))
          have kb0 := (hbx.cell (p := ⟨w1.heap.size, 0, none⟩) hwl).trans k0
          have kb1 := (hbx.cell (p := ⟨w1.heap.size, 1, none⟩) hwl).trans k1
          have kb2 := (hbx.cell (p := ⟨w1.heap.size, 2, none⟩) hwl).trans k2
          clear hp hw hI hb7 hb7w hbx f0 f1 f2 f3 k0 k1 k2
          go_wp2_with fail
          refine htold.mono ?_
          rintro e w8 ⟨at2, a8, c8, rfl, hr8, _, hI8, hb8⟩
          unfold refV
          have hs8 := hb8.size
          simp only [boxW, World.size_alloc] at hs8
          have hnb : Below w8.heap.size w8 (w8.alloc (.cells #[.slice a1 zs.length c1, .int .i64 (at2 : Int), .int .i64 (R.2.2 : Int)] 42)) := (Below.refl _ _).alloc (Nat.le_refl _) _
          have hb9 := hb8.trans (hnb.mono hb8.size)
          obtain ⟨f0, f1, f2, f3⟩ := HF.out
          have g0 := (hb9.cell (p := ⟨wr.heap.size, 0, none⟩) (by simp)).trans f0
          have g1 := (hb9.cell (p := ⟨wr.heap.size, 1, none⟩) (by simp)).trans f1
          have g2 := (hb9.cell (p := ⟨wr.heap.size, 2, none⟩) (by simp)).trans f2
          have g3 := (hb9.cell (p := ⟨wr.heap.size, 3, none⟩) (by simp)).trans f3
          have hw9 := (hb9.block w1.heap.size (by simp; omega)).trans HWX.out
          have hp9 := HPX.out.below hb9
          have hr9 := hr8.below hnb
          have hbw9 := HBX.out.trans (hb9.mono HBX.out.size)
          have hst2 := hst1 _ hp9
          have hn9 := heap_alloc_new w8 (.cells #[.slice a1 zs.length c1, .int .i64 (at2 : Int), .int .i64 (R.2.2 : Int)] 42)
          obtain ⟨W9, hW9⟩ : ∃ W9, W9 = w8.alloc (.cells #[.slice a1 zs.length c1, .int .i64 (at2 : Int), .int .i64 (R.2.2 : Int)] 42) := ⟨_, rfl⟩
          have hs9 : W9.heap.size = w8.heap.size + 1 := by rw [hW9]; simp
          have HP9 := hide_it hp9
          have HW9 := hide_it hw9
          have HR9 := hide_it hr9
          have HB9 := hide_it hbw9
          have HN9 := hide_it hn9
          have HI8 := hide_it hI8
          clear htold hst1 HPX HWX HBX HF f0 f1 f2 f3 hb8 hnb hb9 hw9 hp9 hr9 hbw9 hn9 hr8 hI8 kb0 kb1 kb2 e0 e1 e2 e3
          go_wp2_with fail
          rw [← hW9] at hst2 HP9 HW9 HR9 HB9 HN9 g0 g1 g2 g3 ⊢
          clear hW9
          refine hst2.mono ?_
          rintro e w10 ⟨⟨a10, c10, rfl, hr10, _⟩, hp10, hg10⟩
          have hb10 : Below w1.heap.size w1 w10 := HB9.out.grown hg10 HB9.out.size (fun i e => by cases e; show w1.heap.size ≤ p; omega)
          have hw10 := (hg10.block w1.heap.size (by have := HB9.out.size; omega) (by simpa using hp1)).trans HW9.out
          have hn10 := (hg10.block w8.heap.size (by omega) (by simp; omega)).trans HN9.out
          have hr8' := keepRow HR9.out HP9.out hg10
          have hml : R.1.2.length ≤ maxLen := by unfold maxLen; omega
          have heq := equal_any a8 a10 c8 c10 R.1.2 R.1.2 w10 hr8' hr10 hml hml
          have hdd : decide (R.1.2 = R.1.2) = true := decide_eq_true rfl
          rw [hdd] at heq
          obtain ⟨n0, n1, n2⟩ := three_cells hn10
          obtain ⟨q0, q1, q2⟩ := three_cells hw10
          obtain ⟨z0, z1, z2⟩ := three_soft hw10
          have HP10 := hide_it hp10
          have HB10 := hide_it hb10
          have HW10 := hide_it hw10
          clear hst2 hg10 hp10 hb10 hw10 hn10 hr8' hr10 hml hdd HP9 HW9 HR9 HB9 HN9 g0 g1 g2 g3
          obtain ⟨⟨N, P⟩, S⟩ := R
          go_wp2_with fail
          refine heq.mono ?_
          rintro e w11 ⟨rfl, q11, rfl⟩
          clear heq
          go_wp2_with fail
          go_roundw
          case rel =>
            have hgr := grown3 (w10.drewN q11) w1.heap.size (.slice a1 zs.length c1) (.int .i64 (at2 : Int)) (.int .i64 (S.2 : Int))
            have hbq := (HB10.out.trans (below_drewN (Below.refl w1.heap.size w10) q11)).grown hgr (below_drewN HB10.out q11).size (fun i e => by cases e; omega)
            exact ⟨j + 1, at2, S, by omega, by go_num, Nat.le_trans hlen hst, (HP10.out.below (below_drewN (Below.refl _ _) q11)).far HW10.out (ref_no8 _ _ _ _ _) (fun e => hp1 e.symm) hgr, HI1.out.again HI8.out hbq, set3 HW10.out _ _ _, hbq⟩
          case measure => simp [intOf]; omega
        · have hd2 : decide ((j : Int) < (n : Int)) = false := by simp; omega
          clear hw
          go_wp2_with fail
          refine wp_region_held_drew (S := Keeps w1 p a1 zs c1 at1 st) (by kernel_rfl) ?_ (fun hHeld => ?_)
          · exact (show Keeps w1 p a1 zs c1 at1 st wr from ⟨⟨hp, hI, hb7⟩, k0, k1, k2⟩).next (Below.refl _ _).drew
          refine take_on (i := 0) (v := ?_) rfl rfl (by kernel_rfl) (by kernel_rfl) (by kernel_rfl) (fun _ _ _ h => h) rfl ?_ hHeld ?_
          rotate_left
          · (intro wq hSq; obtain ⟨_, hq0, hq1, hq2⟩ := hSq; go_simp <;> first | with_reducible rfl | rfl)
          simp only [Act.put, List.setIfInBounds_toArray, List.set_cons_zero, List.set_cons_succ]
          refine take_on (i := 2) (v := ?_) rfl rfl (by kernel_rfl) (by kernel_rfl) (by kernel_rfl) (fun _ _ _ h => h) rfl ?_ hHeld ?_
          rotate_left
          · (intro wq hSq; obtain ⟨_, hq0, hq1, hq2⟩ := hSq; go_simp <;> first | with_reducible rfl | rfl)
          simp only [Act.put, List.setIfInBounds_toArray, List.set_cons_zero, List.set_cons_succ]
          refine take_on (i := 3) (v := ?_) rfl rfl (by kernel_rfl) (by kernel_rfl) (by kernel_rfl) (fun _ _ _ h => h) rfl ?_ hHeld ?_
          rotate_left
          · (intro wq hSq; obtain ⟨_, hq0, hq1, hq2⟩ := hSq; go_simp <;> first | with_reducible rfl | rfl)
          simp only [Act.put, List.setIfInBounds_toArray, List.set_cons_zero, List.set_cons_succ]
          refine take_one (i := 1) rfl (by kernel_rfl) (fun K hK => ?_)
          go_simp
          refine (fault_st _ _ _ hHeld.1.1).mono ?_; rintro e w2 ⟨rfl, hq⟩; have hq2 := hq.symm; subst hq2; clear hq
          try go_wp2_with fail
          refine hK.out _ _ ?_ (fun hHeld => ?_)
          · exact hHeld
          clear hK K
          try simp only [Act.put, List.setIfInBounds_toArray, List.set_cons_zero, List.set_cons_succ]
          refine take_on (i := 4) (v := ?_) rfl rfl (by kernel_rfl) (by kernel_rfl) (by kernel_rfl) (fun _ _ _ h => h) rfl ?_ hHeld ?_
          rotate_left
          · (intro wq hSq; obtain ⟨_, hq0, hq1, hq2⟩ := hSq; go_simp <;> first | with_reducible rfl | rfl)
          simp only [Act.put, List.setIfInBounds_toArray, List.set_cons_zero, List.set_cons_succ]
          refine take_on (i := 5) (v := ?_) rfl rfl (by kernel_rfl) (by kernel_rfl) (by kernel_rfl) (fun _ _ _ h => h) rfl ?_ hHeld ?_
          rotate_left
          · (intro wq hSq; obtain ⟨_, hq0, hq1, hq2⟩ := hSq; go_simp <;> first | with_reducible rfl | rfl)
          simp only [Act.put, List.setIfInBounds_toArray, List.set_cons_zero, List.set_cons_succ]
          refine take_on (i := 6) (v := ?_) rfl rfl (by kernel_rfl) (by kernel_rfl) (by kernel_rfl) (fun _ _ _ h => h) rfl ?_ hHeld ?_
          rotate_left
          · (intro wq hSq; obtain ⟨_, hq0, hq1, hq2⟩ := hSq; go_simp <;> first | with_reducible rfl | rfl)
          simp only [Act.put, List.setIfInBounds_toArray, List.set_cons_zero, List.set_cons_succ]
          refine take_on (i := 8) (v := ?_) rfl rfl (by kernel_rfl) (by kernel_rfl) (by kernel_rfl) (fun _ _ _ h => h) rfl ?_ hHeld ?_
          rotate_left
          · (intro wq hSq; obtain ⟨_, hq0, hq1, hq2⟩ := hSq; go_simp <;> first | with_reducible rfl | rfl)
          simp only [Act.put, List.setIfInBounds_toArray, List.set_cons_zero, List.set_cons_succ]
          refine take_one (i := 7) rfl (by kernel_rfl) (fun K hK => ?_)
          go_simp
          refine (left_st _ _ _ hHeld.1.1).mono ?_; rintro e w2 ⟨rfl, hq⟩; have hq2 := hq.symm; subst hq2; clear hq
          try go_wp2_with fail
          refine hK.out _ _ ?_ (fun hHeld => ?_)
          · exact hHeld
          clear hK K
          try simp only [Act.put, List.setIfInBounds_toArray, List.set_cons_zero, List.set_cons_succ]
          refine take_one (i := 9) rfl (by kernel_rfl) (fun K hK => ?_)
          go_simp
          refine (rleft_any a1 zs c1 at1 st _ hHeld.1.2.1).mono ?_; rintro e w2 ⟨rfl, hb2⟩; have hS2 := Keeps.next hHeld hb2
          try go_wp2_with fail
          refine hK.out _ _ ?_ (fun hHeld => ?_)
          · exact hS2
          clear hK K
          try simp only [Act.put, List.setIfInBounds_toArray, List.set_cons_zero, List.set_cons_succ]
          refine take_on (i := 10) (v := ?_) rfl rfl (by kernel_rfl) (by kernel_rfl) (by kernel_rfl) (fun _ _ _ h => h) rfl ?_ hHeld ?_
          rotate_left
          · (intro wq hSq; obtain ⟨_, hq0, hq1, hq2⟩ := hSq; go_simp <;> first | with_reducible rfl | rfl)
          simp only [Act.put, List.setIfInBounds_toArray, List.set_cons_zero, List.set_cons_succ]
          refine take_on (i := 11) (v := ?_) rfl rfl (by kernel_rfl) (by kernel_rfl) (by kernel_rfl) (fun _ _ _ h => h) rfl ?_ hHeld ?_
          rotate_left
          · (intro wq hSq; obtain ⟨_, hq0, hq1, hq2⟩ := hSq; go_simp <;> first | with_reducible rfl | rfl)
          simp only [Act.put, List.setIfInBounds_toArray, List.set_cons_zero, List.set_cons_succ]
          refine take_on (i := 12) (v := ?_) rfl rfl (by kernel_rfl) (by kernel_rfl) (by kernel_rfl) (fun _ _ _ h => h) rfl ?_ hHeld ?_
          rotate_left
          · (intro wq hSq; obtain ⟨_, hq0, hq1, hq2⟩ := hSq; go_simp <;> first | with_reducible rfl | rfl)
          simp only [Act.put, List.setIfInBounds_toArray, List.set_cons_zero, List.set_cons_succ]
          refine take_on (i := 13) (v := ?_) rfl rfl (by kernel_rfl) (by kernel_rfl) (by kernel_rfl) (fun _ _ _ h => h) rfl ?_ hHeld ?_
          rotate_left
          · (intro wq hSq; obtain ⟨_, hq0, hq1, hq2⟩ := hSq; go_simp <;> first | with_reducible rfl | rfl)
          simp only [Act.put, List.setIfInBounds_toArray, List.set_cons_zero, List.set_cons_succ]
          refine take_on (i := 15) (v := ?_) rfl rfl (by kernel_rfl) (by kernel_rfl) (by kernel_rfl) (fun _ _ _ h => h) rfl ?_ hHeld ?_
          rotate_left
          · (intro wq hSq; obtain ⟨_, hq0, hq1, hq2⟩ := hSq; go_simp <;> first | with_reducible rfl | rfl)
          simp only [Act.put, List.setIfInBounds_toArray, List.set_cons_zero, List.set_cons_succ]
          refine take_one (i := 14) rfl (by kernel_rfl) (fun K hK => ?_)
          go_simp
          refine (end_st _ _ _ hHeld.1.1).mono ?_; rintro e w3 ⟨rfl, hq⟩; have hq2 := hq.symm; subst hq2; clear hq
          try go_wp2_with fail
          refine hK.out _ _ ?_ (fun hHeld => ?_)
          · exact hHeld
          clear hK K
          try simp only [Act.put, List.setIfInBounds_toArray, List.set_cons_zero, List.set_cons_succ]
          refine take_one (i := 16) rfl (by kernel_rfl) (fun K hK => ?_)
          go_simp
          refine (rend_any a1 zs c1 at1 st _ hHeld.1.2.1).mono ?_; rintro e w4 ⟨rfl, hb4⟩; have hS4 := Keeps.next hHeld hb4
          try go_wp2_with fail
          refine hK.out _ _ ?_ (fun hHeld => ?_)
          · exact hS4
          clear hK K
          try simp only [Act.put, List.setIfInBounds_toArray, List.set_cons_zero, List.set_cons_succ]
          refine take_on (i := 17) (v := ?_) rfl rfl (by kernel_rfl) (by kernel_rfl) (by kernel_rfl) (fun _ _ _ h => h) rfl ?_ hHeld ?_
          rotate_left
          · (intro wq hSq; obtain ⟨_, hq0, hq1, hq2⟩ := hSq; go_simp <;> first | with_reducible rfl | rfl)
          simp only [Act.put, List.setIfInBounds_toArray, List.set_cons_zero, List.set_cons_succ]
          refine take_on (i := 18) (v := ?_) rfl rfl (by kernel_rfl) (by kernel_rfl) (by kernel_rfl) (fun _ _ _ h => h) rfl ?_ hHeld ?_
          rotate_left
          · (intro wq hSq; obtain ⟨_, hq0, hq1, hq2⟩ := hSq; go_simp <;> first | with_reducible rfl | rfl)
          simp only [Act.put, List.setIfInBounds_toArray, List.set_cons_zero, List.set_cons_succ]
          refine take_on (i := 19) (v := ?_) rfl rfl (by kernel_rfl) (by kernel_rfl) (by kernel_rfl) (fun _ _ _ h => h) rfl ?_ hHeld ?_
          rotate_left
          · (intro wq hSq; obtain ⟨_, hq0, hq1, hq2⟩ := hSq; go_simp <;> first | with_reducible rfl | rfl)
          simp only [Act.put, List.setIfInBounds_toArray, List.set_cons_zero, List.set_cons_succ]
          refine wpAnyH_done (by kernel_rfl) ?_ _
          go_wp2_with fail
          go_ret
          exact ⟨rfl, HB1.out.trans (hHeld.1.2.2.mono HB1.out.size)⟩
end Go.Proofs.Ytfhinodieghklaa.codecReads
