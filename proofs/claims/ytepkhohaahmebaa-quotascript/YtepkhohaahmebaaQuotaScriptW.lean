/- The law on three accounts in turns, walked. -/
import Derived.Test.YtepkhohaahmebaaQs1
import Derived.Test.YtepkhohaahmebaaQs2
import Derived.Deep.Cut
import Derived.Deep.DeepCutAuto
namespace Go.Proofs.Ytepkhohaahmebaa.quotaScript
open Go.RowKit

theorem mid_first (w : World) (w1 : World) (hb : Below w.heap.size w w1) : Mid w ((w1.alloc (.cells #[.pointer none, .pointer none, .pointer none] 25)).alloc (.cells #[.bool false, .int .i64 0, .int .i64 0, .int .i64 0, .int .i64 0, .int .i64 0, .bool false, .int .i64 0, .int .i64 0, .int .i64 0, .int .i64 0, .int .i64 0, .bool false, .int .i64 0, .int .i64 0, .int .i64 0, .int .i64 0, .int .i64 0] 28)) w1.heap.size (w1.heap.size + 1) (fun _ => noAc) (fun _ => noAc) (fun _ => 0) := by
  have h1 := heap_alloc_new (w1.alloc (.cells #[.pointer none, .pointer none, .pointer none] 25)) (.cells #[.bool false, .int .i64 0, .int .i64 0, .int .i64 0, .int .i64 0, .int .i64 0, .bool false, .int .i64 0, .int .i64 0, .int .i64 0, .int .i64 0, .int .i64 0, .bool false, .int .i64 0, .int .i64 0, .int .i64 0, .int .i64 0, .int .i64 0] 28)
  rw [show (w1.alloc (.cells #[.pointer none, .pointer none, .pointer none] 25)).heap.size = w1.heap.size + 1 by simp] at h1
  have hz := hb.size
  refine ⟨⟨_, by rw [Below.heap_alloc _ _ _ (by simp)]; exact heap_alloc_new w1 _, rfl, fun i hi => ?_⟩, ⟨_, h1, rfl, fun i hi => ?_⟩, (fun i hi e => by cases e), fun i hi => noAc_ok, (fun i hi e => by cases e), (fun i j hi hj hij e => by cases e), ⟨hz, by omega⟩, (hb.alloc hz _).alloc (by simp; omega) _⟩
  · match i, hi with
    | 0, _ => rfl
    | 1, _ => rfl
    | 2, _ => rfl
  · match i, hi with
    | 0, _ => exact ⟨rfl, rfl, rfl, rfl, rfl, rfl⟩
    | 1, _ => exact ⟨rfl, rfl, rfl, rfl, rfl, rfl⟩
    | 2, _ => exact ⟨rfl, rfl, rfl, rfl, rfl, rfl⟩

set_option maxRecDepth 100000 in
set_option maxHeartbeats 64000000 in
theorem walk (a : Option Addr) (n cp : Nat) (A : Nat → Opq) (w : World) (ha : CameOpq w a n A) :
    Calls Try.prog 3 #[.slice a n cp] w fun e w' => e = .returned (.bool true) ∧ Below w.heap.size w w' := by
  have hn := ha.size
  have hrow := ha.row
  clear ha
  go_enter Try.func3, Try.ntmps3
  go_wp2_with fail
  refine (head_any _).mono ?_
  rintro e w1 ⟨rfl, b1⟩
  have hS0 := hide_it (mid_first w w1 b1)
  clear b1
  go_wp2_with fail
  obtain ⟨W0, hW0⟩ : ∃ W0, W0 = (w1.alloc (.cells #[.pointer none, .pointer none, .pointer none] 25)).alloc (.cells #[.bool false, .int .i64 0, .int .i64 0, .int .i64 0, .int .i64 0, .int .i64 0, .bool false, .int .i64 0, .int .i64 0, .int .i64 0, .int .i64 0, .int .i64 0, .bool false, .int .i64 0, .int .i64 0, .int .i64 0, .int .i64 0, .int .i64 0] 28) := ⟨_, rfl⟩
  rw [← hW0] at hS0 ⊢
  clear hW0
  obtain ⟨h, hh⟩ : ∃ h, h = w1.heap.size := ⟨_, rfl⟩
  obtain ⟨q, hq⟩ : ∃ q, q = w1.heap.size + 1 := ⟨_, rfl⟩
  rw [← hq] at hS0 ⊢
  rw [← hh] at hS0 ⊢
  clear hh hq
  go_loopw [18] (fun i wr => ∃ (k : Nat) (C : Nat → Ac) (P : Nat → Nat), k ≤ n ∧ i = .int .i64 k ∧ Mid w wr h q C C P) (fun i _ => n - (intOf i).toNat)
  case atStart => exact ⟨0, _, _, by omega, rfl, hS0.out⟩
  case round =>
    clear hS0
    obtain ⟨k, C, P, hk, rfl, hS⟩ := hrel
    by_cases hlt : k < n
    · have hki : (k : Int) < (n : Int) := by omega
      have hw1 : IntKind.i64.wrap ((k : Int) + 1) = (k : Int) + 1 := i64_in (by omega) (by omega)
      obtain ⟨b2, o2, rfl, l2, c0, c1, c2, c3, c4⟩ := hrow.here hlt
      have d0 := (hS.bel.cell (p := ⟨b2, o2 + k * 5, none⟩) l2).trans c0
      have d1 := (hS.bel.cell (p := ⟨b2, o2 + k * 5 + 1, none⟩) l2).trans c1
      have d2 := (hS.bel.cell (p := ⟨b2, o2 + k * 5 + 2, none⟩) l2).trans c2
      have d3 := (hS.bel.cell (p := ⟨b2, o2 + k * 5 + 3, none⟩) l2).trans c3
      have d4 := (hS.bel.cell (p := ⟨b2, o2 + k * 5 + 4, none⟩) l2).trans c4
      clear c0 c1 c2 c3 c4 hrow
      generalize (A k).k = K at d0
      generalize (A k).i = X at d1
      generalize (A k).a = Av at d2
      generalize (A k).b = Bv at d3
      generalize (A k).c = Cv at d4
      obtain ⟨hlh, hlq⟩ := hS.lt
      have hlh1 : h < wr.heap.size + 1 := by omega
      have hlq1 : q < wr.heap.size + 1 := by omega
      have hnh : ¬ h = wr.heap.size := by omega
      have hnq : ¬ q = wr.heap.size := by omega
      have hnh1 : ¬ h = wr.heap.size + 1 := by omega
      have hnq1 : ¬ q = wr.heap.size + 1 := by omega
      have hnh2 : ¬ wr.heap.size = h := by omega
      have hnq2 : ¬ wr.heap.size = q := by omega
      have hnh3 : ¬ wr.heap.size + 1 = h := by omega
      have hnq3 : ¬ wr.heap.size + 1 = q := by omega
      have HS := hide_it hS
      clear hS
      go_upto_region 10 with fail
      go_cut [9, 18] (fun t i wc => t = .bool (decide (0 ≤ X ∧ X < 3)) ∧ i = .int .i64 (k : Int) ∧ wc = (wr.alloc (.cells #[.int .i64 K, .int .i64 X, .int .i64 Av, .int .i64 Bv, .int .i64 Cv] 30)).alloc (.cells #[.bool false, .int .i64 0, .int .i64 0, .int .i64 0, .int .i64 0, .int .i64 0] 27))
      case first =>
        by_cases h0 : X < 0
        · have hd : decide (0 ≤ X ∧ X < 3) = false := decide_eq_false (by omega)
          go_wp2_with fail
          go_meet
          case rel => exact ⟨by rw [hd], rfl, rfl⟩
        · by_cases h3 : X < 3
          · have hd : decide (0 ≤ X ∧ X < 3) = true := decide_eq_true (by omega)
            have h0' : 0 ≤ X := by omega
            go_wp2_with fail
            go_meet
            case rel => exact ⟨by rw [hd], rfl, rfl⟩
          · have hd : decide (0 ≤ X ∧ X < 3) = false := decide_eq_false (by omega)
            have h0' : 0 ≤ X := by omega
            go_wp2_with fail
            go_meet
            case rel => exact ⟨by rw [hd], rfl, rfl⟩
      case rest =>
        obtain ⟨rfl, rfl, rfl⟩ := hcut
        clear d0 d1 d2 d3 d4
        by_cases hX : 0 ≤ X ∧ X < 3
        · have hd : decide (0 ≤ X ∧ X < 3) = true := decide_eq_true hX
          rw [hd]
          clear hd
          obtain ⟨i, rfl⟩ : ∃ i : Nat, X = (i : Int) := ⟨X.toNat, by omega⟩
          have hi : i < 3 := by omega
          obtain ⟨x0, x1, x2, x3, x4, x5, x6, x7, x8⟩ := HS.out.cells hi
          have Hok := hide_it (HS.out.ok i hi)
          have Hpk := hide_it (HS.out.pk i hi)
          obtain ⟨c, hc⟩ : ∃ c, c = C i := ⟨_, rfl⟩
          obtain ⟨p, hp⟩ : ∃ p, p = P i := ⟨_, rfl⟩
          rw [← hc] at x0 x1 x2 x3 x4 x5 x6 Hok Hpk
          rw [← hp] at x0 Hpk
          obtain ⟨pp, hV⟩ : ∃ pp, Value.pointer pp = ptrA c p := ⟨_, rfl⟩
          rw [← hV] at x0
          have HV := hide_it hV
          have HC := hide_it hc
          have HP := hide_it hp
          clear hc hp hV
          as_aux_lemma =>
            obtain ⟨W2, hW2⟩ : ∃ W2, W2 = (wr.alloc (.cells #[.int .i64 K, .int .i64 (i : Int), .int .i64 Av, .int .i64 Bv, .int .i64 Cv] 30)).alloc (.cells #[.bool c.t, .int .i64 c.q, .int .i64 c.m, .int .i64 c.l, .int .i64 c.p, .int .i64 c.o] 27) := ⟨_, rfl⟩
            have hb2 : Below wr.heap.size wr W2 := by rw [hW2]; exact ((Below.refl _ _).alloc (Nat.le_refl _) _).alloc (by simp) _
            have hs2 : W2.heap.size = wr.heap.size + 1 + 1 := by rw [hW2]; simp
            have ho2 : BoxO W2 wr.heap.size ⟨K, (i : Int), Av, Bv, Cv⟩ := by unfold BoxO; rw [hW2, Below.heap_alloc _ _ _ (by simp)]; exact heap_alloc_new wr _
            have hx2 : BoxA W2 (wr.heap.size + 1) c := by
              have h9 := BoxA.new (wr.alloc (.cells #[.int .i64 K, .int .i64 (i : Int), .int .i64 Av, .int .i64 Bv, .int .i64 Cv] 30)) c
              rw [show (wr.alloc (.cells #[.int .i64 K, .int .i64 (i : Int), .int .i64 Av, .int .i64 Bv, .int .i64 Cv] 30)).heap.size = wr.heap.size + 1 by simp] at h9
              rw [hW2]; exact h9
            have HS2 := hide_it (HS.out.below hb2)
            have Hpk2 := hide_it (Hpk.out.below hb2)
            have HO2 := hide_it ho2
            have HX2 := hide_it hx2
            have HB2 := hide_it hb2
            clear ho2 hx2 hb2
            by_cases k0 : K = 0
            · subst k0
              rcases newA_ways Av Bv with ⟨e1, e2, -⟩ | ⟨e1, e2⟩
              · skip
                have hpr := made_any ⟨0, (i : Int), Av, Bv, Cv⟩ W2
                simp only at hpr
                rw [e1, e2] at hpr
                have hrf := rnew_any Av Bv
                rw [e1, e2] at hrf
                have Hok2 : Hid (AcOk ⟨true, Av, Bv, 0, 0, 0⟩) := hide_it (by have := newA_ok Av Bv; rwa [e1] at this)
                unfold valA at hrf
                simp only at hrf
                clear e1 e2
                have f0 : W2.cell? ⟨wr.heap.size, 0, none⟩ = some (.int .i64 0) := (HO2.out).cells.1
                have f1 : W2.cell? ⟨wr.heap.size, 1, none⟩ = some (.int .i64 (i : Int)) := (HO2.out).cells.2.1
                have f2 : W2.cell? ⟨wr.heap.size, 2, none⟩ = some (.int .i64 Av) := (HO2.out).cells.2.2.1
                have f3 : W2.cell? ⟨wr.heap.size, 3, none⟩ = some (.int .i64 Bv) := (HO2.out).cells.2.2.2.1
                have f4 : W2.cell? ⟨wr.heap.size, 4, none⟩ = some (.int .i64 Cv) := (HO2.out).cells.2.2.2.2
                go_wp2_with fail
                try rw [← hW2]
                clear hW2
                refine hpr.mono ?_
                rintro e z1 ⟨b1, rfl, hlb, hpa, hb3⟩
                rw [show ptrA ⟨true, Av, Bv, 0, 0, 0⟩ b1 = .pointer (some ⟨b1, 0, none⟩) from rfl]
                clear hpr f0 f1 f2 f3 f4
                have hx3 := HX2.out.below hb3
                have ho3 := HO2.out.below hb3
                have hm1 := HS2.out.below hb3
                have hsz1 := hb3.size
                have f2 : z1.cell? ⟨wr.heap.size, 2, none⟩ = some (.int .i64 Av) := (ho3).cells.2.2.1
                have f3 : z1.cell? ⟨wr.heap.size, 3, none⟩ = some (.int .i64 Bv) := (ho3).cells.2.2.2.1
                go_wp2_with fail
                refine (hrf z1).mono ?_
                rintro e z2 ⟨rfl, hz2⟩
                clear hrf f2 f3
                have hx4 := hx3.below hz2
                have ho4 := ho3.below hz2
                have hm2 := hm1.below hz2
                have hpa2 := hpa.below hz2
                have hsz2 := hz2.size
                have hwb : w.heap.size ≤ wr.heap.size + 1 := by have := HS.out.bel.size; omega
                have hxn : wr.heap.size + 1 < z2.heap.size := by omega
                have hon : wr.heap.size < z2.heap.size := by omega
                have hhn : h < z2.heap.size := by omega
                have hqn : q < z2.heap.size := by omega
                obtain ⟨y0, y1, y2, y3, y4, y5, y6⟩ := (hx4).cells
                have hnb : wr.heap.size + 1 ≠ b1 := by omega
                have HXZ := hide_it (hx4.put ⟨true, Av, Bv, 0, 0, 0⟩)
                have HOZ := hide_it (ho4.keep (set6_off z2 (wr.heap.size + 1) 0 ⟨true, Av, Bv, 0, 0, 0⟩ (j := wr.heap.size) (by omega)))
                have HPZ : Hid (Pa (set6 z2 (wr.heap.size + 1) 0 ⟨true, Av, Bv, 0, 0, 0⟩) b1 ⟨true, Av, Bv, 0, 0, 0⟩) := hide_it (hpa2.keep (set6_off _ _ _ _ hnb.symm))
                have HMZ := hide_it (hm2.box hwb hx4 ⟨true, Av, Bv, 0, 0, 0⟩)
                have hsZ := (set6_chg z2 (wr.heap.size + 1) 0 ⟨true, Av, Bv, 0, 0, 0⟩).size
                clear hm1 hm2 hpa hpa2 hx3 hx4 ho3 ho4 hz2 hb3
                go_upto_region 21 with fail
                obtain ⟨Z, hZ⟩ : ∃ Z, Z = (((((z2.setCell ⟨wr.heap.size + 1, 0, none⟩ (.bool true)).setCell ⟨wr.heap.size + 1, 1, none⟩ (.int .i64 Av)).setCell ⟨wr.heap.size + 1, 2, none⟩ (.int .i64 Bv)).setCell ⟨wr.heap.size + 1, 3, none⟩ (.int .i64 0)).setCell ⟨wr.heap.size + 1, 4, none⟩ (.int .i64 0)).setCell ⟨wr.heap.size + 1, 5, none⟩ (.int .i64 0) := ⟨_, rfl⟩
                have hZ2 : set6 z2 (wr.heap.size + 1) 0 ⟨true, Av, Bv, 0, 0, 0⟩ = Z := hZ.symm
                rw [hZ2] at HXZ HOZ HPZ HMZ hsZ
                rw [← hZ]
                clear hZ hZ2 y0 y1 y2 y3 y4 y5 y6
                have hxn2 : wr.heap.size + 1 < Z.heap.size := by omega
                have hon2 : wr.heap.size < Z.heap.size := by omega
                have hhn2 : h < Z.heap.size := by omega
                have hqn2 : q < Z.heap.size := by omega
                obtain ⟨y0, y1, y2, y3, y4, y5, y6⟩ := (HXZ.out).cells
                simp only at y0 y1 y2 y3 y4 y5
                have g1 : Z.cell? ⟨wr.heap.size, 1, none⟩ = some (.int .i64 (i : Int)) := (HOZ.out).cells.2.1
                obtain ⟨x0, x1, x2, x3, x4, x5, x6, x7, x8⟩ := (HMZ.out).cells hi
                clear x1 x2 x3 x4 x5 x6 x8
                go_upto_region 42 with fail
                have HM4 := hide_it (HMZ.out.put hi Hok2.out HPZ.out (by have := HS.out.bel.size; omega) (fun _ j hj hjt => by have := (HS.out.pk j hj).lt hjt; omega))
                have HX4 := hide_it (HXZ.out.keep (w' := Z.setCell ⟨h, i, none⟩ (ptrA ⟨true, Av, Bv, 0, 0, 0⟩ b1)) (Below.heap_setCell _ _ _ _ (by show wr.heap.size + 1 ≠ h; omega)))
                have HO4 := hide_it (HOZ.out.keep (w' := Z.setCell ⟨h, i, none⟩ (ptrA ⟨true, Av, Bv, 0, 0, 0⟩ b1)) (Below.heap_setCell _ _ _ _ (by show wr.heap.size ≠ h; omega)))
                obtain ⟨Y, hY⟩ : ∃ Y, Y = Z.setCell ⟨h, i, none⟩ (.pointer (some ⟨b1, 0, none⟩)) := ⟨_, rfl⟩
                have hY2 : Z.setCell ⟨h, i, none⟩ (ptrA ⟨true, Av, Bv, 0, 0, 0⟩ b1) = Y := hY.symm
                rw [hY2] at HM4 HX4 HO4
                rw [← hY]
                have hsY : Z.heap.size ≤ Y.heap.size := by rw [hY]; simp
                clear hY hY2 y0 y1 y2 y3 y4 y5 y6 g1 x0 x7
                have hxn3 : wr.heap.size + 1 < Y.heap.size := by omega
                have hon3 : wr.heap.size < Y.heap.size := by omega
                have hhn3 : h < Y.heap.size := by omega
                have hqn3 : q < Y.heap.size := by omega
                obtain ⟨y0, y1, y2, y3, y4, y5, y6⟩ := (HX4.out).cells
                simp only at y0 y1 y2 y3 y4 y5
                have g1 : Y.cell? ⟨wr.heap.size, 1, none⟩ = some (.int .i64 (i : Int)) := (HO4.out).cells.2.1
                obtain ⟨x0, x1, x2, x3, x4, x5, x6, x7, x8⟩ := (HM4.out).cells hi
                have HM := hide_it (HM4.out.write hi ⟨true, Av, Bv, 0, 0, 0⟩)
                go_wp2
                go_roundw
                case rel =>
                  exact ⟨k + 1, _, _, by omega, by go_num, HM.out⟩
                case measure => simp [intOf]; omega
              · skip
                have hpr := made_any ⟨0, (i : Int), Av, Bv, Cv⟩ W2
                simp only at hpr
                rw [e1, e2] at hpr
                have hrf := rnew_any Av Bv
                rw [e1, e2] at hrf
                have Hok2 : Hid (AcOk noAc) := hide_it (by have := newA_ok Av Bv; rwa [e1] at this)
                unfold valA at hrf
                simp only [noAc] at hrf
                clear e1 e2
                have f0 : W2.cell? ⟨wr.heap.size, 0, none⟩ = some (.int .i64 0) := (HO2.out).cells.1
                have f1 : W2.cell? ⟨wr.heap.size, 1, none⟩ = some (.int .i64 (i : Int)) := (HO2.out).cells.2.1
                have f2 : W2.cell? ⟨wr.heap.size, 2, none⟩ = some (.int .i64 Av) := (HO2.out).cells.2.2.1
                have f3 : W2.cell? ⟨wr.heap.size, 3, none⟩ = some (.int .i64 Bv) := (HO2.out).cells.2.2.2.1
                have f4 : W2.cell? ⟨wr.heap.size, 4, none⟩ = some (.int .i64 Cv) := (HO2.out).cells.2.2.2.2
                go_wp2_with fail
                try rw [← hW2]
                clear hW2
                refine hpr.mono ?_
                rintro e z1 ⟨b1, rfl, hlb, hpa, hb3⟩
                rw [show ptrA noAc b1 = .pointer none from rfl]
                clear hpr f0 f1 f2 f3 f4
                have hx3 := HX2.out.below hb3
                have ho3 := HO2.out.below hb3
                have hm1 := HS2.out.below hb3
                have hsz1 := hb3.size
                have f2 : z1.cell? ⟨wr.heap.size, 2, none⟩ = some (.int .i64 Av) := (ho3).cells.2.2.1
                have f3 : z1.cell? ⟨wr.heap.size, 3, none⟩ = some (.int .i64 Bv) := (ho3).cells.2.2.2.1
                go_wp2_with fail
                refine (hrf z1).mono ?_
                rintro e z2 ⟨rfl, hz2⟩
                clear hrf f2 f3
                have hx4 := hx3.below hz2
                have ho4 := ho3.below hz2
                have hm2 := hm1.below hz2
                have hpa2 := hpa.below hz2
                have hsz2 := hz2.size
                have hwb : w.heap.size ≤ wr.heap.size + 1 := by have := HS.out.bel.size; omega
                have hxn : wr.heap.size + 1 < z2.heap.size := by omega
                have hon : wr.heap.size < z2.heap.size := by omega
                have hhn : h < z2.heap.size := by omega
                have hqn : q < z2.heap.size := by omega
                obtain ⟨y0, y1, y2, y3, y4, y5, y6⟩ := (hx4).cells
                have hnb : wr.heap.size + 1 ≠ b1 := by omega
                have HXZ := hide_it (hx4.put noAc)
                have HOZ := hide_it (ho4.keep (set6_off z2 (wr.heap.size + 1) 0 noAc (j := wr.heap.size) (by omega)))
                have HPZ : Hid (Pa (set6 z2 (wr.heap.size + 1) 0 noAc) b1 noAc) := hide_it (hpa2.keep (set6_off _ _ _ _ hnb.symm))
                have HMZ := hide_it (hm2.box hwb hx4 noAc)
                have hsZ := (set6_chg z2 (wr.heap.size + 1) 0 noAc).size
                clear hm1 hm2 hpa hpa2 hx3 hx4 ho3 ho4 hz2 hb3
                go_upto_region 21 with fail
                obtain ⟨Z, hZ⟩ : ∃ Z, Z = (((((z2.setCell ⟨wr.heap.size + 1, 0, none⟩ (.bool false)).setCell ⟨wr.heap.size + 1, 1, none⟩ (.int .i64 0)).setCell ⟨wr.heap.size + 1, 2, none⟩ (.int .i64 0)).setCell ⟨wr.heap.size + 1, 3, none⟩ (.int .i64 0)).setCell ⟨wr.heap.size + 1, 4, none⟩ (.int .i64 0)).setCell ⟨wr.heap.size + 1, 5, none⟩ (.int .i64 0) := ⟨_, rfl⟩
                have hZ2 : set6 z2 (wr.heap.size + 1) 0 noAc = Z := hZ.symm
                rw [hZ2] at HXZ HOZ HPZ HMZ hsZ
                rw [← hZ]
                clear hZ hZ2 y0 y1 y2 y3 y4 y5 y6
                have hxn2 : wr.heap.size + 1 < Z.heap.size := by omega
                have hon2 : wr.heap.size < Z.heap.size := by omega
                have hhn2 : h < Z.heap.size := by omega
                have hqn2 : q < Z.heap.size := by omega
                obtain ⟨y0, y1, y2, y3, y4, y5, y6⟩ := (HXZ.out).cells
                simp only [noAc] at y0 y1 y2 y3 y4 y5
                have g1 : Z.cell? ⟨wr.heap.size, 1, none⟩ = some (.int .i64 (i : Int)) := (HOZ.out).cells.2.1
                obtain ⟨x0, x1, x2, x3, x4, x5, x6, x7, x8⟩ := (HMZ.out).cells hi
                clear x1 x2 x3 x4 x5 x6 x8
                go_upto_region 42 with fail
                have HM4 := hide_it (HMZ.out.put hi Hok2.out HPZ.out (by have := HS.out.bel.size; omega) (fun _ j hj hjt => by have := (HS.out.pk j hj).lt hjt; omega))
                have HX4 := hide_it (HXZ.out.keep (w' := Z.setCell ⟨h, i, none⟩ (ptrA noAc b1)) (Below.heap_setCell _ _ _ _ (by show wr.heap.size + 1 ≠ h; omega)))
                have HO4 := hide_it (HOZ.out.keep (w' := Z.setCell ⟨h, i, none⟩ (ptrA noAc b1)) (Below.heap_setCell _ _ _ _ (by show wr.heap.size ≠ h; omega)))
                obtain ⟨Y, hY⟩ : ∃ Y, Y = Z.setCell ⟨h, i, none⟩ (.pointer none) := ⟨_, rfl⟩
                have hY2 : Z.setCell ⟨h, i, none⟩ (ptrA noAc b1) = Y := hY.symm
                rw [hY2] at HM4 HX4 HO4
                rw [← hY]
                have hsY : Z.heap.size ≤ Y.heap.size := by rw [hY]; simp
                clear hY hY2 y0 y1 y2 y3 y4 y5 y6 g1 x0 x7
                have hxn3 : wr.heap.size + 1 < Y.heap.size := by omega
                have hon3 : wr.heap.size < Y.heap.size := by omega
                have hhn3 : h < Y.heap.size := by omega
                have hqn3 : q < Y.heap.size := by omega
                obtain ⟨y0, y1, y2, y3, y4, y5, y6⟩ := (HX4.out).cells
                simp only [noAc] at y0 y1 y2 y3 y4 y5
                have g1 : Y.cell? ⟨wr.heap.size, 1, none⟩ = some (.int .i64 (i : Int)) := (HO4.out).cells.2.1
                obtain ⟨x0, x1, x2, x3, x4, x5, x6, x7, x8⟩ := (HM4.out).cells hi
                have HM := hide_it (HM4.out.write hi noAc)
                go_wp2
                go_roundw
                case rel =>
                  exact ⟨k + 1, _, _, by omega, by go_num, HM.out⟩
                case measure => simp [intOf]; omega
            · skip
              by_cases k1 : K = 1
              · subst k1
                have hpr := begin_any c Hok.out p W2 Hpk2.out
                rw [← HV.out] at hpr
                have hrf := rbegin_any c Hok.out
                have Hok2 := hide_it (begA_ok Hok.out)
                have Ht2 := hide_it (begA_t c)
                obtain ⟨E, hE⟩ : ∃ E, E = begE c := ⟨_, rfl⟩
                rw [← hE] at hpr
                simp only [← hE] at hrf
                clear hE
                have hee : (E == E) = true := by simp
                obtain ⟨d, hd⟩ : ∃ d, d = begA c := ⟨_, rfl⟩
                rw [← hd] at hpr Hok2 Ht2
                simp only [← hd] at hrf
                clear hd
                unfold valA at hrf
                go_wp2_with fail
                try rw [← hW2]
                clear hW2
                refine hpr.mono ?_
                rintro e z1 ⟨rfl, htk⟩
                clear hpr
                have hplt : c.t = true → p < wr.heap.size := fun e => Hpk.out.lt e
                have hx3 : BoxA z1 (wr.heap.size + 1) c := HX2.out.keep (htk.chg.block (wr.heap.size + 1) (by have := hs2; omega) (fun x => by have := hplt x.1; omega))
                have ho3 : BoxO z1 wr.heap.size ⟨1, (i : Int), Av, Bv, Cv⟩ := HO2.out.keep (htk.chg.block wr.heap.size (by have := hs2; omega) (fun x => by have := hplt x.1; omega))
                have hsz1 := htk.chg.size
                have hm1 : Mid w z1 h q C (put3 C i d) P := HS2.out.went hi Hok2.out (by rw [Ht2.out, HC.out]) (by rw [← HP.out, ← HC.out]; exact htk)
                obtain ⟨y0, y1, y2, y3, y4, y5, y6⟩ := (hx3).cells
                clear htk hplt
                go_wp2_with fail
                refine (hrf z1).mono ?_
                rintro e z2 ⟨rfl, hz2⟩
                clear hrf y0 y1 y2 y3 y4 y5 y6
                have hx4 := hx3.below hz2
                have ho4 := ho3.below hz2
                have hm2 := hm1.below hz2
                have hsz2 := hz2.size
                have hwb : w.heap.size ≤ wr.heap.size + 1 := by have := HS.out.bel.size; omega
                have hxn : wr.heap.size + 1 < z2.heap.size := by omega
                have hon : wr.heap.size < z2.heap.size := by omega
                have hhn : h < z2.heap.size := by omega
                have hqn : q < z2.heap.size := by omega
                obtain ⟨y0, y1, y2, y3, y4, y5, y6⟩ := (hx4).cells
                have g1 : z2.cell? ⟨wr.heap.size, 1, none⟩ = some (.int .i64 (i : Int)) := (ho4).cells.2.1
                obtain ⟨x0, x1, x2, x3, x4, x5, x6, x7, x8⟩ := (hm2).cells hi
                have hm3 := hm2.box hwb hx4 d
                clear g1 x0 x1 x2 x3 x4 x5 x6 x7 x8
                have hxZ := hx4.put d
                have hoZ := ho4.keep (set6_off z2 (wr.heap.size + 1) 0 d (j := wr.heap.size) (by omega))
                have hsZ := (set6_chg z2 (wr.heap.size + 1) 0 d).size
                have HXZ := hide_it hxZ
                have HOZ := hide_it hoZ
                have HMZ := hide_it hm3
                clear hxZ hoZ hm1 hm2 hm3 hx3 hx4 ho3 ho4 hz2
                go_upto_region 42 with fail
                obtain ⟨Z, hZ⟩ : ∃ Z, Z = (((((z2.setCell ⟨wr.heap.size + 1, 0, none⟩ (.bool d.t)).setCell ⟨wr.heap.size + 1, 1, none⟩ (.int .i64 d.q)).setCell ⟨wr.heap.size + 1, 2, none⟩ (.int .i64 d.m)).setCell ⟨wr.heap.size + 1, 3, none⟩ (.int .i64 d.l)).setCell ⟨wr.heap.size + 1, 4, none⟩ (.int .i64 d.p)).setCell ⟨wr.heap.size + 1, 5, none⟩ (.int .i64 d.o) := ⟨_, rfl⟩
                have hZ2 : set6 z2 (wr.heap.size + 1) 0 d = Z := hZ.symm
                rw [hZ2] at HXZ HOZ HMZ hsZ
                rw [← hZ]
                clear hZ hZ2 y0 y1 y2 y3 y4 y5 y6
                have hxn2 : wr.heap.size + 1 < Z.heap.size := by omega
                have hon2 : wr.heap.size < Z.heap.size := by omega
                have hhn2 : h < Z.heap.size := by omega
                have hqn2 : q < Z.heap.size := by omega
                have g1 : Z.cell? ⟨wr.heap.size, 1, none⟩ = some (.int .i64 (i : Int)) := (HOZ.out).cells.2.1
                obtain ⟨y0, y1, y2, y3, y4, y5, y6⟩ := (HXZ.out).cells
                obtain ⟨x0, x1, x2, x3, x4, x5, x6, x7, x8⟩ := (HMZ.out).cells hi
                have HM := hide_it (HMZ.out.write hi d)
                go_wp2
                go_roundw
                case rel =>
                  exact ⟨k + 1, _, _, by omega, by go_num, HM.out⟩
                case measure => simp [intOf]; omega
              · skip
                by_cases k2 : K = 2
                · subst k2
                  have hpr := charge_any c Hok.out p W2 Hpk2.out Av Bv
                  rw [← HV.out] at hpr
                  have hrf := rcharge_any c Hok.out Av Bv
                  have Hok2 := hide_it (chgA_ok Hok.out Av Bv)
                  have Ht2 := hide_it (chgA_t c Av Bv)
                  obtain ⟨E, hE⟩ : ∃ E, E = chgE c Av Bv := ⟨_, rfl⟩
                  rw [← hE] at hpr
                  simp only [← hE] at hrf
                  clear hE
                  have hee : (E == E) = true := by simp
                  obtain ⟨d, hd⟩ : ∃ d, d = chgA c Av Bv := ⟨_, rfl⟩
                  rw [← hd] at hpr Hok2 Ht2
                  simp only [← hd] at hrf
                  clear hd
                  unfold valA at hrf
                  have f2 : W2.cell? ⟨wr.heap.size, 2, none⟩ = some (.int .i64 Av) := (HO2.out).cells.2.2.1
                  have f3 : W2.cell? ⟨wr.heap.size, 3, none⟩ = some (.int .i64 Bv) := (HO2.out).cells.2.2.2.1
                  go_wp2_with fail
                  try rw [← hW2]
                  clear hW2
                  refine hpr.mono ?_
                  rintro e z1 ⟨rfl, htk⟩
                  clear hpr
                  have hplt : c.t = true → p < wr.heap.size := fun e => Hpk.out.lt e
                  have hx3 : BoxA z1 (wr.heap.size + 1) c := HX2.out.keep (htk.chg.block (wr.heap.size + 1) (by have := hs2; omega) (fun x => by have := hplt x.1; omega))
                  have ho3 : BoxO z1 wr.heap.size ⟨2, (i : Int), Av, Bv, Cv⟩ := HO2.out.keep (htk.chg.block wr.heap.size (by have := hs2; omega) (fun x => by have := hplt x.1; omega))
                  have hsz1 := htk.chg.size
                  have hm1 : Mid w z1 h q C (put3 C i d) P := HS2.out.went hi Hok2.out (by rw [Ht2.out, HC.out]) (by rw [← HP.out, ← HC.out]; exact htk)
                  clear f2 f3
                  have f2 : z1.cell? ⟨wr.heap.size, 2, none⟩ = some (.int .i64 Av) := (ho3).cells.2.2.1
                  have f3 : z1.cell? ⟨wr.heap.size, 3, none⟩ = some (.int .i64 Bv) := (ho3).cells.2.2.2.1
                  obtain ⟨y0, y1, y2, y3, y4, y5, y6⟩ := (hx3).cells
                  clear htk hplt
                  go_wp2_with fail
                  refine (hrf z1).mono ?_
                  rintro e z2 ⟨rfl, hz2⟩
                  clear hrf y0 y1 y2 y3 y4 y5 y6
                  have hx4 := hx3.below hz2
                  have ho4 := ho3.below hz2
                  have hm2 := hm1.below hz2
                  have hsz2 := hz2.size
                  have hwb : w.heap.size ≤ wr.heap.size + 1 := by have := HS.out.bel.size; omega
                  have hxn : wr.heap.size + 1 < z2.heap.size := by omega
                  have hon : wr.heap.size < z2.heap.size := by omega
                  have hhn : h < z2.heap.size := by omega
                  have hqn : q < z2.heap.size := by omega
                  obtain ⟨y0, y1, y2, y3, y4, y5, y6⟩ := (hx4).cells
                  have g1 : z2.cell? ⟨wr.heap.size, 1, none⟩ = some (.int .i64 (i : Int)) := (ho4).cells.2.1
                  obtain ⟨x0, x1, x2, x3, x4, x5, x6, x7, x8⟩ := (hm2).cells hi
                  have hm3 := hm2.box hwb hx4 d
                  clear g1 x0 x1 x2 x3 x4 x5 x6 x7 x8
                  have hxZ := hx4.put d
                  have hoZ := ho4.keep (set6_off z2 (wr.heap.size + 1) 0 d (j := wr.heap.size) (by omega))
                  have hsZ := (set6_chg z2 (wr.heap.size + 1) 0 d).size
                  have HXZ := hide_it hxZ
                  have HOZ := hide_it hoZ
                  have HMZ := hide_it hm3
                  clear hxZ hoZ hm1 hm2 hm3 hx3 hx4 ho3 ho4 hz2
                  go_upto_region 42 with fail
                  obtain ⟨Z, hZ⟩ : ∃ Z, Z = (((((z2.setCell ⟨wr.heap.size + 1, 0, none⟩ (.bool d.t)).setCell ⟨wr.heap.size + 1, 1, none⟩ (.int .i64 d.q)).setCell ⟨wr.heap.size + 1, 2, none⟩ (.int .i64 d.m)).setCell ⟨wr.heap.size + 1, 3, none⟩ (.int .i64 d.l)).setCell ⟨wr.heap.size + 1, 4, none⟩ (.int .i64 d.p)).setCell ⟨wr.heap.size + 1, 5, none⟩ (.int .i64 d.o) := ⟨_, rfl⟩
                  have hZ2 : set6 z2 (wr.heap.size + 1) 0 d = Z := hZ.symm
                  rw [hZ2] at HXZ HOZ HMZ hsZ
                  rw [← hZ]
                  clear hZ hZ2 y0 y1 y2 y3 y4 y5 y6
                  have hxn2 : wr.heap.size + 1 < Z.heap.size := by omega
                  have hon2 : wr.heap.size < Z.heap.size := by omega
                  have hhn2 : h < Z.heap.size := by omega
                  have hqn2 : q < Z.heap.size := by omega
                  have g1 : Z.cell? ⟨wr.heap.size, 1, none⟩ = some (.int .i64 (i : Int)) := (HOZ.out).cells.2.1
                  obtain ⟨y0, y1, y2, y3, y4, y5, y6⟩ := (HXZ.out).cells
                  obtain ⟨x0, x1, x2, x3, x4, x5, x6, x7, x8⟩ := (HMZ.out).cells hi
                  have HM := hide_it (HMZ.out.write hi d)
                  go_wp2
                  go_roundw
                  case rel =>
                    exact ⟨k + 1, _, _, by omega, by go_num, HM.out⟩
                  case measure => simp [intOf]; omega
                · skip
                  by_cases k3 : K = 3
                  · subst k3
                    have hpr := end_any c Hok.out p W2 Hpk2.out Av
                    rw [← HV.out] at hpr
                    have hrf := rend_any c Hok.out Av
                    have Hok2 := hide_it (endA_ok Hok.out Av)
                    have Ht2 := hide_it (endA_t c Av)
                    obtain ⟨E, hE⟩ : ∃ E, E = endE c Av := ⟨_, rfl⟩
                    rw [← hE] at hpr
                    simp only [← hE] at hrf
                    clear hE
                    have hee : (E == E) = true := by simp
                    obtain ⟨d, hd⟩ : ∃ d, d = endA c Av := ⟨_, rfl⟩
                    rw [← hd] at hpr Hok2 Ht2
                    simp only [← hd] at hrf
                    clear hd
                    unfold valA at hrf
                    have f2 : W2.cell? ⟨wr.heap.size, 2, none⟩ = some (.int .i64 Av) := (HO2.out).cells.2.2.1
                    go_wp2_with fail
                    try rw [← hW2]
                    clear hW2
                    refine hpr.mono ?_
                    rintro e z1 ⟨rfl, htk⟩
                    clear hpr
                    have hplt : c.t = true → p < wr.heap.size := fun e => Hpk.out.lt e
                    have hx3 : BoxA z1 (wr.heap.size + 1) c := HX2.out.keep (htk.chg.block (wr.heap.size + 1) (by have := hs2; omega) (fun x => by have := hplt x.1; omega))
                    have ho3 : BoxO z1 wr.heap.size ⟨3, (i : Int), Av, Bv, Cv⟩ := HO2.out.keep (htk.chg.block wr.heap.size (by have := hs2; omega) (fun x => by have := hplt x.1; omega))
                    have hsz1 := htk.chg.size
                    have hm1 : Mid w z1 h q C (put3 C i d) P := HS2.out.went hi Hok2.out (by rw [Ht2.out, HC.out]) (by rw [← HP.out, ← HC.out]; exact htk)
                    clear f2
                    have f2 : z1.cell? ⟨wr.heap.size, 2, none⟩ = some (.int .i64 Av) := (ho3).cells.2.2.1
                    obtain ⟨y0, y1, y2, y3, y4, y5, y6⟩ := (hx3).cells
                    clear htk hplt
                    go_wp2_with fail
                    refine (hrf z1).mono ?_
                    rintro e z2 ⟨rfl, hz2⟩
                    clear hrf y0 y1 y2 y3 y4 y5 y6
                    have hx4 := hx3.below hz2
                    have ho4 := ho3.below hz2
                    have hm2 := hm1.below hz2
                    have hsz2 := hz2.size
                    have hwb : w.heap.size ≤ wr.heap.size + 1 := by have := HS.out.bel.size; omega
                    have hxn : wr.heap.size + 1 < z2.heap.size := by omega
                    have hon : wr.heap.size < z2.heap.size := by omega
                    have hhn : h < z2.heap.size := by omega
                    have hqn : q < z2.heap.size := by omega
                    obtain ⟨y0, y1, y2, y3, y4, y5, y6⟩ := (hx4).cells
                    have g1 : z2.cell? ⟨wr.heap.size, 1, none⟩ = some (.int .i64 (i : Int)) := (ho4).cells.2.1
                    obtain ⟨x0, x1, x2, x3, x4, x5, x6, x7, x8⟩ := (hm2).cells hi
                    have hm3 := hm2.box hwb hx4 d
                    clear g1 x0 x1 x2 x3 x4 x5 x6 x7 x8
                    have hxZ := hx4.put d
                    have hoZ := ho4.keep (set6_off z2 (wr.heap.size + 1) 0 d (j := wr.heap.size) (by omega))
                    have hsZ := (set6_chg z2 (wr.heap.size + 1) 0 d).size
                    have HXZ := hide_it hxZ
                    have HOZ := hide_it hoZ
                    have HMZ := hide_it hm3
                    clear hxZ hoZ hm1 hm2 hm3 hx3 hx4 ho3 ho4 hz2
                    go_upto_region 42 with fail
                    obtain ⟨Z, hZ⟩ : ∃ Z, Z = (((((z2.setCell ⟨wr.heap.size + 1, 0, none⟩ (.bool d.t)).setCell ⟨wr.heap.size + 1, 1, none⟩ (.int .i64 d.q)).setCell ⟨wr.heap.size + 1, 2, none⟩ (.int .i64 d.m)).setCell ⟨wr.heap.size + 1, 3, none⟩ (.int .i64 d.l)).setCell ⟨wr.heap.size + 1, 4, none⟩ (.int .i64 d.p)).setCell ⟨wr.heap.size + 1, 5, none⟩ (.int .i64 d.o) := ⟨_, rfl⟩
                    have hZ2 : set6 z2 (wr.heap.size + 1) 0 d = Z := hZ.symm
                    rw [hZ2] at HXZ HOZ HMZ hsZ
                    rw [← hZ]
                    clear hZ hZ2 y0 y1 y2 y3 y4 y5 y6
                    have hxn2 : wr.heap.size + 1 < Z.heap.size := by omega
                    have hon2 : wr.heap.size < Z.heap.size := by omega
                    have hhn2 : h < Z.heap.size := by omega
                    have hqn2 : q < Z.heap.size := by omega
                    have g1 : Z.cell? ⟨wr.heap.size, 1, none⟩ = some (.int .i64 (i : Int)) := (HOZ.out).cells.2.1
                    obtain ⟨y0, y1, y2, y3, y4, y5, y6⟩ := (HXZ.out).cells
                    obtain ⟨x0, x1, x2, x3, x4, x5, x6, x7, x8⟩ := (HMZ.out).cells hi
                    have HM := hide_it (HMZ.out.write hi d)
                    go_wp2
                    go_roundw
                    case rel =>
                      exact ⟨k + 1, _, _, by omega, by go_num, HM.out⟩
                    case measure => simp [intOf]; omega
                  · skip
                    by_cases k4 : K = 4
                    · subst k4
                      have hpr := settle_any c Hok.out p W2 Hpk2.out Av
                      rw [← HV.out] at hpr
                      have hrf := rsettle_any c Hok.out Av
                      have Hok2 := hide_it (setA_ok Hok.out Av)
                      have Ht2 := hide_it (setA_t c Av)
                      obtain ⟨E, hE⟩ : ∃ E, E = setE c Av := ⟨_, rfl⟩
                      rw [← hE] at hpr
                      simp only [← hE] at hrf
                      clear hE
                      have hee : (E == E) = true := by simp
                      obtain ⟨d, hd⟩ : ∃ d, d = setA c Av := ⟨_, rfl⟩
                      rw [← hd] at hpr Hok2 Ht2
                      simp only [← hd] at hrf
                      clear hd
                      unfold valA at hrf
                      have f2 : W2.cell? ⟨wr.heap.size, 2, none⟩ = some (.int .i64 Av) := (HO2.out).cells.2.2.1
                      go_wp2_with fail
                      try rw [← hW2]
                      clear hW2
                      refine hpr.mono ?_
                      rintro e z1 ⟨rfl, htk⟩
                      clear hpr
                      have hplt : c.t = true → p < wr.heap.size := fun e => Hpk.out.lt e
                      have hx3 : BoxA z1 (wr.heap.size + 1) c := HX2.out.keep (htk.chg.block (wr.heap.size + 1) (by have := hs2; omega) (fun x => by have := hplt x.1; omega))
                      have ho3 : BoxO z1 wr.heap.size ⟨4, (i : Int), Av, Bv, Cv⟩ := HO2.out.keep (htk.chg.block wr.heap.size (by have := hs2; omega) (fun x => by have := hplt x.1; omega))
                      have hsz1 := htk.chg.size
                      have hm1 : Mid w z1 h q C (put3 C i d) P := HS2.out.went hi Hok2.out (by rw [Ht2.out, HC.out]) (by rw [← HP.out, ← HC.out]; exact htk)
                      clear f2
                      have f2 : z1.cell? ⟨wr.heap.size, 2, none⟩ = some (.int .i64 Av) := (ho3).cells.2.2.1
                      obtain ⟨y0, y1, y2, y3, y4, y5, y6⟩ := (hx3).cells
                      clear htk hplt
                      go_wp2_with fail
                      refine (hrf z1).mono ?_
                      rintro e z2 ⟨rfl, hz2⟩
                      clear hrf y0 y1 y2 y3 y4 y5 y6
                      have hx4 := hx3.below hz2
                      have ho4 := ho3.below hz2
                      have hm2 := hm1.below hz2
                      have hsz2 := hz2.size
                      have hwb : w.heap.size ≤ wr.heap.size + 1 := by have := HS.out.bel.size; omega
                      have hxn : wr.heap.size + 1 < z2.heap.size := by omega
                      have hon : wr.heap.size < z2.heap.size := by omega
                      have hhn : h < z2.heap.size := by omega
                      have hqn : q < z2.heap.size := by omega
                      obtain ⟨y0, y1, y2, y3, y4, y5, y6⟩ := (hx4).cells
                      have g1 : z2.cell? ⟨wr.heap.size, 1, none⟩ = some (.int .i64 (i : Int)) := (ho4).cells.2.1
                      obtain ⟨x0, x1, x2, x3, x4, x5, x6, x7, x8⟩ := (hm2).cells hi
                      have hm3 := hm2.box hwb hx4 d
                      clear g1 x0 x1 x2 x3 x4 x5 x6 x7 x8
                      have hxZ := hx4.put d
                      have hoZ := ho4.keep (set6_off z2 (wr.heap.size + 1) 0 d (j := wr.heap.size) (by omega))
                      have hsZ := (set6_chg z2 (wr.heap.size + 1) 0 d).size
                      have HXZ := hide_it hxZ
                      have HOZ := hide_it hoZ
                      have HMZ := hide_it hm3
                      clear hxZ hoZ hm1 hm2 hm3 hx3 hx4 ho3 ho4 hz2
                      go_upto_region 42 with fail
                      obtain ⟨Z, hZ⟩ : ∃ Z, Z = (((((z2.setCell ⟨wr.heap.size + 1, 0, none⟩ (.bool d.t)).setCell ⟨wr.heap.size + 1, 1, none⟩ (.int .i64 d.q)).setCell ⟨wr.heap.size + 1, 2, none⟩ (.int .i64 d.m)).setCell ⟨wr.heap.size + 1, 3, none⟩ (.int .i64 d.l)).setCell ⟨wr.heap.size + 1, 4, none⟩ (.int .i64 d.p)).setCell ⟨wr.heap.size + 1, 5, none⟩ (.int .i64 d.o) := ⟨_, rfl⟩
                      have hZ2 : set6 z2 (wr.heap.size + 1) 0 d = Z := hZ.symm
                      rw [hZ2] at HXZ HOZ HMZ hsZ
                      rw [← hZ]
                      clear hZ hZ2 y0 y1 y2 y3 y4 y5 y6
                      have hxn2 : wr.heap.size + 1 < Z.heap.size := by omega
                      have hon2 : wr.heap.size < Z.heap.size := by omega
                      have hhn2 : h < Z.heap.size := by omega
                      have hqn2 : q < Z.heap.size := by omega
                      have g1 : Z.cell? ⟨wr.heap.size, 1, none⟩ = some (.int .i64 (i : Int)) := (HOZ.out).cells.2.1
                      obtain ⟨y0, y1, y2, y3, y4, y5, y6⟩ := (HXZ.out).cells
                      obtain ⟨x0, x1, x2, x3, x4, x5, x6, x7, x8⟩ := (HMZ.out).cells hi
                      have HM := hide_it (HMZ.out.write hi d)
                      go_wp2
                      go_roundw
                      case rel =>
                        exact ⟨k + 1, _, _, by omega, by go_num, HM.out⟩
                      case measure => simp [intOf]; omega
                    · skip
                      by_cases k5 : K = 5
                      · subst k5
                        have hpr : ∀ z, Below W2.heap.size W2 z → Calls Try.prog 18 #[.pointer pp] z fun e w' => e = .returned (.int .i64 (c.l + c.p)) ∧ Below z.heap.size z w' := fun z hz => by
                          rw [HV.out]; refine (used_any c Hok.out p z (Hpk2.out.below hz)).mono ?_
                          rintro e w' ⟨rfl, h⟩; exact ⟨rfl, h⟩
                        have hbx := (Below.refl W2.heap.size W2).drew
                        have hee : ((c.l + c.p) == (c.l + c.p)) = true := by simp
                        have hrf := rused_any c Hok.out
                        unfold valA at hrf
                        generalize c.l + c.p = U at *
                        go_wp2_with fail
                        try rw [← hW2]
                        clear hW2
                        refine wp_region_held_drew (S := (fun w' => w'.heap[(wr.heap.size + 1)]? = W2.heap[(wr.heap.size + 1)]?)) (by kernel_rfl) ?_ (fun hHeld => ?_)
                        · rfl
                        refine take_on (i := 0) (v := ?_) rfl rfl (by kernel_rfl) (by kernel_rfl) (by kernel_rfl) (fun _ _ _ h => h) rfl ?_ hHeld ?_
                        rotate_left
                        · (intro wq hSq; obtain ⟨cq, hcq, zq, q0, q1, q2, q3, q4, q5⟩ := HX2.out; have hxq := hSq.trans hcq; have y0 := (cell_of_row _ _ 0 _ _ _ hxq).trans q0; have y1 := (cell_of_row _ _ 1 _ _ _ hxq).trans q1; have y2 := (cell_of_row _ _ 2 _ _ _ hxq).trans q2; have y3 := (cell_of_row _ _ 3 _ _ _ hxq).trans q3; have y4 := (cell_of_row _ _ 4 _ _ _ hxq).trans q4; have y5 := (cell_of_row _ _ 5 _ _ _ hxq).trans q5; go_simp <;> first | with_reducible rfl | rfl)
                        simp only [Act.put, List.setIfInBounds_toArray, List.set_cons_zero, List.set_cons_succ]
                        refine take_on (i := 2) (v := ?_) rfl rfl (by kernel_rfl) (by kernel_rfl) (by kernel_rfl) (fun _ _ _ h => h) rfl ?_ hHeld ?_
                        rotate_left
                        · (intro wq hSq; obtain ⟨cq, hcq, zq, q0, q1, q2, q3, q4, q5⟩ := HX2.out; have hxq := hSq.trans hcq; have y0 := (cell_of_row _ _ 0 _ _ _ hxq).trans q0; have y1 := (cell_of_row _ _ 1 _ _ _ hxq).trans q1; have y2 := (cell_of_row _ _ 2 _ _ _ hxq).trans q2; have y3 := (cell_of_row _ _ 3 _ _ _ hxq).trans q3; have y4 := (cell_of_row _ _ 4 _ _ _ hxq).trans q4; have y5 := (cell_of_row _ _ 5 _ _ _ hxq).trans q5; go_simp <;> first | with_reducible rfl | rfl)
                        simp only [Act.put, List.setIfInBounds_toArray, List.set_cons_zero, List.set_cons_succ]
                        refine take_one (i := 1) rfl (by kernel_rfl) (fun K hK => ?_)
                        go_simp
                        (refine (hpr _ hbx).mono ?_; rintro e z1 ⟨rfl, hz1⟩; have hy1 := hbx.trans (hz1.mono (by have := hbx.size; omega)))
                        try go_wp2_with fail
                        refine hK.out _ _ ?_ (fun hHeld => ?_)
                        · exact hy1.block _ (by have := hs2; omega)
                        clear hK K
                        try simp only [Act.put, List.setIfInBounds_toArray, List.set_cons_zero, List.set_cons_succ]
                        refine take_one (i := 3) rfl (by kernel_rfl) (fun K hK => ?_)
                        go_simp
                        (refine (hrf _).mono ?_; rintro e z2 ⟨rfl, hz2⟩; have hy2 := hy1.trans (hz2.mono (by have := hy1.size; omega)))
                        try go_wp2_with fail
                        refine hK.out _ _ ?_ (fun hHeld => ?_)
                        · exact hy2.block _ (by have := hs2; omega)
                        clear hK K
                        try simp only [Act.put, List.setIfInBounds_toArray, List.set_cons_zero, List.set_cons_succ]
                        refine take_on (i := 4) (v := ?_) rfl rfl (by kernel_rfl) (by kernel_rfl) (by kernel_rfl) (fun _ _ _ h => h) rfl ?_ hHeld ?_
                        rotate_left
                        · (intro wq hSq; obtain ⟨cq, hcq, zq, q0, q1, q2, q3, q4, q5⟩ := HX2.out; have hxq := hSq.trans hcq; have y0 := (cell_of_row _ _ 0 _ _ _ hxq).trans q0; have y1 := (cell_of_row _ _ 1 _ _ _ hxq).trans q1; have y2 := (cell_of_row _ _ 2 _ _ _ hxq).trans q2; have y3 := (cell_of_row _ _ 3 _ _ _ hxq).trans q3; have y4 := (cell_of_row _ _ 4 _ _ _ hxq).trans q4; have y5 := (cell_of_row _ _ 5 _ _ _ hxq).trans q5; go_simp <;> first | with_reducible rfl | rfl)
                        simp only [Act.put, List.setIfInBounds_toArray, List.set_cons_zero, List.set_cons_succ]
                        refine take_on (i := 5) (v := ?_) rfl rfl (by kernel_rfl) (by kernel_rfl) (by kernel_rfl) (fun _ _ _ h => h) rfl ?_ hHeld ?_
                        rotate_left
                        · (intro wq hSq; obtain ⟨cq, hcq, zq, q0, q1, q2, q3, q4, q5⟩ := HX2.out; have hxq := hSq.trans hcq; have y0 := (cell_of_row _ _ 0 _ _ _ hxq).trans q0; have y1 := (cell_of_row _ _ 1 _ _ _ hxq).trans q1; have y2 := (cell_of_row _ _ 2 _ _ _ hxq).trans q2; have y3 := (cell_of_row _ _ 3 _ _ _ hxq).trans q3; have y4 := (cell_of_row _ _ 4 _ _ _ hxq).trans q4; have y5 := (cell_of_row _ _ 5 _ _ _ hxq).trans q5; go_simp <;> first | with_reducible rfl | rfl)
                        simp only [Act.put, List.setIfInBounds_toArray, List.set_cons_zero, List.set_cons_succ]
                        refine wpAnyH_done (by kernel_rfl) ?_ _
                        have hx9 := HX2.out.below hy2
                        have ho9 := HO2.out.below hy2
                        have hm9 := HS2.out.below hy2
                        have g1 : z2.cell? ⟨wr.heap.size, 1, none⟩ = some (.int .i64 (i : Int)) := (ho9).cells.2.1
                        obtain ⟨v0, v1, v2, v3, v4, v5, v6⟩ := (hx9).cells
                        obtain ⟨x0, x1, x2, x3, x4, x5, x6, x7, x8⟩ := (hm9).cells hi
                        have hm := hm9.write hi c
                        rw [HC.out, put3_self, ← HC.out] at hm
                        have HM := hide_it hm
                        clear hm hm9 ho9 hx9 hpr hbx hrf hy1 hy2 hz1 hz2
                        go_wp2
                        go_roundw
                        case rel =>
                          exact ⟨k + 1, C, P, by omega, by go_num, HM.out⟩
                        case measure => simp [intOf]; omega
                      · skip
                        by_cases k6 : K = 6
                        · subst k6
                          have hpr : ∀ z, Below W2.heap.size W2 z → Calls Try.prog 20 #[.pointer pp] z fun e w' => e = .returned (.int .i64 (c.p)) ∧ Below z.heap.size z w' := fun z hz => by
                            rw [HV.out]; refine (pending_any c Hok.out p z (Hpk2.out.below hz)).mono ?_
                            rintro e w' ⟨rfl, rfl⟩; exact ⟨rfl, Below.refl _ _⟩
                          have hbx := (Below.refl W2.heap.size W2).drew
                          have hee : ((c.p) == (c.p)) = true := by simp
                          go_wp2_with fail
                          try rw [← hW2]
                          clear hW2
                          refine wp_region_held_drew (S := (fun w' => w'.heap[(wr.heap.size + 1)]? = W2.heap[(wr.heap.size + 1)]?)) (by kernel_rfl) ?_ (fun hHeld => ?_)
                          · rfl
                          refine take_on (i := 0) (v := ?_) rfl rfl (by kernel_rfl) (by kernel_rfl) (by kernel_rfl) (fun _ _ _ h => h) rfl ?_ hHeld ?_
                          rotate_left
                          · (intro wq hSq; obtain ⟨cq, hcq, zq, q0, q1, q2, q3, q4, q5⟩ := HX2.out; have hxq := hSq.trans hcq; have y0 := (cell_of_row _ _ 0 _ _ _ hxq).trans q0; have y1 := (cell_of_row _ _ 1 _ _ _ hxq).trans q1; have y2 := (cell_of_row _ _ 2 _ _ _ hxq).trans q2; have y3 := (cell_of_row _ _ 3 _ _ _ hxq).trans q3; have y4 := (cell_of_row _ _ 4 _ _ _ hxq).trans q4; have y5 := (cell_of_row _ _ 5 _ _ _ hxq).trans q5; go_simp <;> first | with_reducible rfl | rfl)
                          simp only [Act.put, List.setIfInBounds_toArray, List.set_cons_zero, List.set_cons_succ]
                          refine take_on (i := 2) (v := ?_) rfl rfl (by kernel_rfl) (by kernel_rfl) (by kernel_rfl) (fun _ _ _ h => h) rfl ?_ hHeld ?_
                          rotate_left
                          · (intro wq hSq; obtain ⟨cq, hcq, zq, q0, q1, q2, q3, q4, q5⟩ := HX2.out; have hxq := hSq.trans hcq; have y0 := (cell_of_row _ _ 0 _ _ _ hxq).trans q0; have y1 := (cell_of_row _ _ 1 _ _ _ hxq).trans q1; have y2 := (cell_of_row _ _ 2 _ _ _ hxq).trans q2; have y3 := (cell_of_row _ _ 3 _ _ _ hxq).trans q3; have y4 := (cell_of_row _ _ 4 _ _ _ hxq).trans q4; have y5 := (cell_of_row _ _ 5 _ _ _ hxq).trans q5; go_simp <;> first | with_reducible rfl | rfl)
                          simp only [Act.put, List.setIfInBounds_toArray, List.set_cons_zero, List.set_cons_succ]
                          refine take_on (i := 3) (v := ?_) rfl rfl (by kernel_rfl) (by kernel_rfl) (by kernel_rfl) (fun _ _ _ h => h) rfl ?_ hHeld ?_
                          rotate_left
                          · (intro wq hSq; obtain ⟨cq, hcq, zq, q0, q1, q2, q3, q4, q5⟩ := HX2.out; have hxq := hSq.trans hcq; have y0 := (cell_of_row _ _ 0 _ _ _ hxq).trans q0; have y1 := (cell_of_row _ _ 1 _ _ _ hxq).trans q1; have y2 := (cell_of_row _ _ 2 _ _ _ hxq).trans q2; have y3 := (cell_of_row _ _ 3 _ _ _ hxq).trans q3; have y4 := (cell_of_row _ _ 4 _ _ _ hxq).trans q4; have y5 := (cell_of_row _ _ 5 _ _ _ hxq).trans q5; go_simp <;> first | with_reducible rfl | rfl)
                          simp only [Act.put, List.setIfInBounds_toArray, List.set_cons_zero, List.set_cons_succ]
                          refine take_one (i := 1) rfl (by kernel_rfl) (fun K hK => ?_)
                          go_simp
                          (refine (hpr _ hbx).mono ?_; rintro e z1 ⟨rfl, hz1⟩; have hy1 := hbx.trans (hz1.mono (by have := hbx.size; omega)))
                          try go_wp2_with fail
                          refine hK.out _ _ ?_ (fun hHeld => ?_)
                          · exact hy1.block _ (by have := hs2; omega)
                          clear hK K
                          try simp only [Act.put, List.setIfInBounds_toArray, List.set_cons_zero, List.set_cons_succ]
                          refine take_on (i := 4) (v := ?_) rfl rfl (by kernel_rfl) (by kernel_rfl) (by kernel_rfl) (fun _ _ _ h => h) rfl ?_ hHeld ?_
                          rotate_left
                          · (intro wq hSq; obtain ⟨cq, hcq, zq, q0, q1, q2, q3, q4, q5⟩ := HX2.out; have hxq := hSq.trans hcq; have y0 := (cell_of_row _ _ 0 _ _ _ hxq).trans q0; have y1 := (cell_of_row _ _ 1 _ _ _ hxq).trans q1; have y2 := (cell_of_row _ _ 2 _ _ _ hxq).trans q2; have y3 := (cell_of_row _ _ 3 _ _ _ hxq).trans q3; have y4 := (cell_of_row _ _ 4 _ _ _ hxq).trans q4; have y5 := (cell_of_row _ _ 5 _ _ _ hxq).trans q5; go_simp <;> first | with_reducible rfl | rfl)
                          simp only [Act.put, List.setIfInBounds_toArray, List.set_cons_zero, List.set_cons_succ]
                          refine take_on (i := 5) (v := ?_) rfl rfl (by kernel_rfl) (by kernel_rfl) (by kernel_rfl) (fun _ _ _ h => h) rfl ?_ hHeld ?_
                          rotate_left
                          · (intro wq hSq; obtain ⟨cq, hcq, zq, q0, q1, q2, q3, q4, q5⟩ := HX2.out; have hxq := hSq.trans hcq; have y0 := (cell_of_row _ _ 0 _ _ _ hxq).trans q0; have y1 := (cell_of_row _ _ 1 _ _ _ hxq).trans q1; have y2 := (cell_of_row _ _ 2 _ _ _ hxq).trans q2; have y3 := (cell_of_row _ _ 3 _ _ _ hxq).trans q3; have y4 := (cell_of_row _ _ 4 _ _ _ hxq).trans q4; have y5 := (cell_of_row _ _ 5 _ _ _ hxq).trans q5; go_simp <;> first | with_reducible rfl | rfl)
                          simp only [Act.put, List.setIfInBounds_toArray, List.set_cons_zero, List.set_cons_succ]
                          refine wpAnyH_done (by kernel_rfl) ?_ _
                          have hx9 := HX2.out.below hy1
                          have ho9 := HO2.out.below hy1
                          have hm9 := HS2.out.below hy1
                          have g1 : z1.cell? ⟨wr.heap.size, 1, none⟩ = some (.int .i64 (i : Int)) := (ho9).cells.2.1
                          obtain ⟨v0, v1, v2, v3, v4, v5, v6⟩ := (hx9).cells
                          obtain ⟨x0, x1, x2, x3, x4, x5, x6, x7, x8⟩ := (hm9).cells hi
                          have hm := hm9.write hi c
                          rw [HC.out, put3_self, ← HC.out] at hm
                          have HM := hide_it hm
                          clear hm hm9 ho9 hx9 hpr hbx hy1 hz1
                          go_wp2
                          go_roundw
                          case rel =>
                            exact ⟨k + 1, C, P, by omega, by go_num, HM.out⟩
                          case measure => simp [intOf]; omega
                        · skip
                          by_cases k7 : K = 7
                          · subst k7
                            have hpr : ∀ z, Below W2.heap.size W2 z → Calls Try.prog 21 #[.pointer pp] z fun e w' => e = .returned (.int .i64 (c.o)) ∧ Below z.heap.size z w' := fun z hz => by
                              rw [HV.out]; refine (open_any c Hok.out p z (Hpk2.out.below hz)).mono ?_
                              rintro e w' ⟨rfl, rfl⟩; exact ⟨rfl, Below.refl _ _⟩
                            have hbx := (Below.refl W2.heap.size W2).drew
                            have hee : ((c.o) == (c.o)) = true := by simp
                            go_wp2_with fail
                            try rw [← hW2]
                            clear hW2
                            refine wp_region_held_drew (S := (fun w' => w'.heap[(wr.heap.size + 1)]? = W2.heap[(wr.heap.size + 1)]?)) (by kernel_rfl) ?_ (fun hHeld => ?_)
                            · rfl
                            refine take_on (i := 0) (v := ?_) rfl rfl (by kernel_rfl) (by kernel_rfl) (by kernel_rfl) (fun _ _ _ h => h) rfl ?_ hHeld ?_
                            rotate_left
                            · (intro wq hSq; obtain ⟨cq, hcq, zq, q0, q1, q2, q3, q4, q5⟩ := HX2.out; have hxq := hSq.trans hcq; have y0 := (cell_of_row _ _ 0 _ _ _ hxq).trans q0; have y1 := (cell_of_row _ _ 1 _ _ _ hxq).trans q1; have y2 := (cell_of_row _ _ 2 _ _ _ hxq).trans q2; have y3 := (cell_of_row _ _ 3 _ _ _ hxq).trans q3; have y4 := (cell_of_row _ _ 4 _ _ _ hxq).trans q4; have y5 := (cell_of_row _ _ 5 _ _ _ hxq).trans q5; go_simp <;> first | with_reducible rfl | rfl)
                            simp only [Act.put, List.setIfInBounds_toArray, List.set_cons_zero, List.set_cons_succ]
                            refine take_on (i := 2) (v := ?_) rfl rfl (by kernel_rfl) (by kernel_rfl) (by kernel_rfl) (fun _ _ _ h => h) rfl ?_ hHeld ?_
                            rotate_left
                            · (intro wq hSq; obtain ⟨cq, hcq, zq, q0, q1, q2, q3, q4, q5⟩ := HX2.out; have hxq := hSq.trans hcq; have y0 := (cell_of_row _ _ 0 _ _ _ hxq).trans q0; have y1 := (cell_of_row _ _ 1 _ _ _ hxq).trans q1; have y2 := (cell_of_row _ _ 2 _ _ _ hxq).trans q2; have y3 := (cell_of_row _ _ 3 _ _ _ hxq).trans q3; have y4 := (cell_of_row _ _ 4 _ _ _ hxq).trans q4; have y5 := (cell_of_row _ _ 5 _ _ _ hxq).trans q5; go_simp <;> first | with_reducible rfl | rfl)
                            simp only [Act.put, List.setIfInBounds_toArray, List.set_cons_zero, List.set_cons_succ]
                            refine take_on (i := 3) (v := ?_) rfl rfl (by kernel_rfl) (by kernel_rfl) (by kernel_rfl) (fun _ _ _ h => h) rfl ?_ hHeld ?_
                            rotate_left
                            · (intro wq hSq; obtain ⟨cq, hcq, zq, q0, q1, q2, q3, q4, q5⟩ := HX2.out; have hxq := hSq.trans hcq; have y0 := (cell_of_row _ _ 0 _ _ _ hxq).trans q0; have y1 := (cell_of_row _ _ 1 _ _ _ hxq).trans q1; have y2 := (cell_of_row _ _ 2 _ _ _ hxq).trans q2; have y3 := (cell_of_row _ _ 3 _ _ _ hxq).trans q3; have y4 := (cell_of_row _ _ 4 _ _ _ hxq).trans q4; have y5 := (cell_of_row _ _ 5 _ _ _ hxq).trans q5; go_simp <;> first | with_reducible rfl | rfl)
                            simp only [Act.put, List.setIfInBounds_toArray, List.set_cons_zero, List.set_cons_succ]
                            refine take_one (i := 1) rfl (by kernel_rfl) (fun K hK => ?_)
                            go_simp
                            (refine (hpr _ hbx).mono ?_; rintro e z1 ⟨rfl, hz1⟩; have hy1 := hbx.trans (hz1.mono (by have := hbx.size; omega)))
                            try go_wp2_with fail
                            refine hK.out _ _ ?_ (fun hHeld => ?_)
                            · exact hy1.block _ (by have := hs2; omega)
                            clear hK K
                            try simp only [Act.put, List.setIfInBounds_toArray, List.set_cons_zero, List.set_cons_succ]
                            refine take_on (i := 4) (v := ?_) rfl rfl (by kernel_rfl) (by kernel_rfl) (by kernel_rfl) (fun _ _ _ h => h) rfl ?_ hHeld ?_
                            rotate_left
                            · (intro wq hSq; obtain ⟨cq, hcq, zq, q0, q1, q2, q3, q4, q5⟩ := HX2.out; have hxq := hSq.trans hcq; have y0 := (cell_of_row _ _ 0 _ _ _ hxq).trans q0; have y1 := (cell_of_row _ _ 1 _ _ _ hxq).trans q1; have y2 := (cell_of_row _ _ 2 _ _ _ hxq).trans q2; have y3 := (cell_of_row _ _ 3 _ _ _ hxq).trans q3; have y4 := (cell_of_row _ _ 4 _ _ _ hxq).trans q4; have y5 := (cell_of_row _ _ 5 _ _ _ hxq).trans q5; go_simp <;> first | with_reducible rfl | rfl)
                            simp only [Act.put, List.setIfInBounds_toArray, List.set_cons_zero, List.set_cons_succ]
                            refine take_on (i := 5) (v := ?_) rfl rfl (by kernel_rfl) (by kernel_rfl) (by kernel_rfl) (fun _ _ _ h => h) rfl ?_ hHeld ?_
                            rotate_left
                            · (intro wq hSq; obtain ⟨cq, hcq, zq, q0, q1, q2, q3, q4, q5⟩ := HX2.out; have hxq := hSq.trans hcq; have y0 := (cell_of_row _ _ 0 _ _ _ hxq).trans q0; have y1 := (cell_of_row _ _ 1 _ _ _ hxq).trans q1; have y2 := (cell_of_row _ _ 2 _ _ _ hxq).trans q2; have y3 := (cell_of_row _ _ 3 _ _ _ hxq).trans q3; have y4 := (cell_of_row _ _ 4 _ _ _ hxq).trans q4; have y5 := (cell_of_row _ _ 5 _ _ _ hxq).trans q5; go_simp <;> first | with_reducible rfl | rfl)
                            simp only [Act.put, List.setIfInBounds_toArray, List.set_cons_zero, List.set_cons_succ]
                            refine wpAnyH_done (by kernel_rfl) ?_ _
                            have hx9 := HX2.out.below hy1
                            have ho9 := HO2.out.below hy1
                            have hm9 := HS2.out.below hy1
                            have g1 : z1.cell? ⟨wr.heap.size, 1, none⟩ = some (.int .i64 (i : Int)) := (ho9).cells.2.1
                            obtain ⟨v0, v1, v2, v3, v4, v5, v6⟩ := (hx9).cells
                            obtain ⟨x0, x1, x2, x3, x4, x5, x6, x7, x8⟩ := (hm9).cells hi
                            have hm := hm9.write hi c
                            rw [HC.out, put3_self, ← HC.out] at hm
                            have HM := hide_it hm
                            clear hm hm9 ho9 hx9 hpr hbx hy1 hz1
                            go_wp2
                            go_roundw
                            case rel =>
                              exact ⟨k + 1, C, P, by omega, by go_num, HM.out⟩
                            case measure => simp [intOf]; omega
                          · skip
                            have n0 : (K == 0) = false := by simpa using k0
                            have n1 : (K == 1) = false := by simpa using k1
                            have n2 : (K == 2) = false := by simpa using k2
                            have n3 : (K == 3) = false := by simpa using k3
                            have n4 : (K == 4) = false := by simpa using k4
                            have n5 : (K == 5) = false := by simpa using k5
                            have n6 : (K == 6) = false := by simpa using k6
                            have n7 : (K == 7) = false := by simpa using k7
                            clear k0 k1 k2 k3 k4 k5 k6 k7
                            have hm := HS2.out.write hi c
                            rw [HC.out, put3_self, ← HC.out] at hm
                            have HM := hide_it hm
                            clear hm
                            go_upto_region 42 with fail
                            rw [← hW2]
                            clear hW2 x0 x1 x2 x3 x4 x5 x6 x7 x8
                            have hxn2 : wr.heap.size + 1 < W2.heap.size := by omega
                            have hon2 : wr.heap.size < W2.heap.size := by omega
                            have hhn2 : h < W2.heap.size := by omega
                            have hqn2 : q < W2.heap.size := by omega
                            have g1 : W2.cell? ⟨wr.heap.size, 1, none⟩ = some (.int .i64 (i : Int)) := (HO2.out).cells.2.1
                            obtain ⟨y0, y1, y2, y3, y4, y5, y6⟩ := (HX2.out).cells
                            obtain ⟨x0, x1, x2, x3, x4, x5, x6, x7, x8⟩ := (HS2.out).cells hi
                            go_wp2
                            go_roundw
                            case rel =>
                              exact ⟨k + 1, C, P, by omega, by go_num, HM.out⟩
                            case measure => simp [intOf]; omega
        · have hd : decide (0 ≤ X ∧ X < 3) = false := decide_eq_false hX
          rw [hd]
          clear hd hX
          as_aux_lemma =>
            obtain ⟨c, hc0⟩ : ∃ c, c = noAc := ⟨_, rfl⟩
            have Hok := hide_it (show AcOk c by rw [hc0]; exact noAc_ok)
            have Hct := hide_it (show c.t = false by rw [hc0]; rfl)
            obtain ⟨p, hp⟩ : ∃ p, p = 0 := ⟨_, rfl⟩
            have Hpk := hide_it (show Pa wr p c from fun e => by rw [Hct.out] at e; cases e)
            have HV := hide_it (show Value.pointer none = ptrA c p by rw [hc0]; rfl)
            have HC0 := hide_it hc0
            clear hp hc0
            obtain ⟨W2, hW2⟩ : ∃ W2, W2 = (wr.alloc (.cells #[.int .i64 K, .int .i64 X, .int .i64 Av, .int .i64 Bv, .int .i64 Cv] 30)).alloc (.cells #[.bool false, .int .i64 0, .int .i64 0, .int .i64 0, .int .i64 0, .int .i64 0] 27) := ⟨_, rfl⟩
            have hb2 : Below wr.heap.size wr W2 := by rw [hW2]; exact ((Below.refl _ _).alloc (Nat.le_refl _) _).alloc (by simp) _
            have hs2 : W2.heap.size = wr.heap.size + 1 + 1 := by rw [hW2]; simp
            have ho2 : BoxO W2 wr.heap.size ⟨K, X, Av, Bv, Cv⟩ := by unfold BoxO; rw [hW2, Below.heap_alloc _ _ _ (by simp)]; exact heap_alloc_new wr _
            have hx2 : BoxA W2 (wr.heap.size + 1) c := by
              have h9 := BoxA.new (wr.alloc (.cells #[.int .i64 K, .int .i64 X, .int .i64 Av, .int .i64 Bv, .int .i64 Cv] 30)) c
              rw [show (wr.alloc (.cells #[.int .i64 K, .int .i64 X, .int .i64 Av, .int .i64 Bv, .int .i64 Cv] 30)).heap.size = wr.heap.size + 1 by simp] at h9
              rw [hW2]; rw [HC0.out] at h9 ⊢; exact h9
            have HS2 := hide_it (HS.out.below hb2)
            have Hpk2 := hide_it (Hpk.out.below hb2)
            have HO2 := hide_it ho2
            have HX2 := hide_it hx2
            have HB2 := hide_it hb2
            clear ho2 hx2 hb2
            skip
            by_cases k0 : K = 0
            · subst k0
              rcases newA_ways Av Bv with ⟨e1, e2, -⟩ | ⟨e1, e2⟩
              · skip
                have hpr := made_any ⟨0, X, Av, Bv, Cv⟩ W2
                simp only at hpr
                rw [e1, e2] at hpr
                have hrf := rnew_any Av Bv
                rw [e1, e2] at hrf
                have Hok2 : Hid (AcOk ⟨true, Av, Bv, 0, 0, 0⟩) := hide_it (by have := newA_ok Av Bv; rwa [e1] at this)
                unfold valA at hrf
                simp only at hrf
                clear e1 e2
                have f0 : W2.cell? ⟨wr.heap.size, 0, none⟩ = some (.int .i64 0) := (HO2.out).cells.1
                have f1 : W2.cell? ⟨wr.heap.size, 1, none⟩ = some (.int .i64 X) := (HO2.out).cells.2.1
                have f2 : W2.cell? ⟨wr.heap.size, 2, none⟩ = some (.int .i64 Av) := (HO2.out).cells.2.2.1
                have f3 : W2.cell? ⟨wr.heap.size, 3, none⟩ = some (.int .i64 Bv) := (HO2.out).cells.2.2.2.1
                have f4 : W2.cell? ⟨wr.heap.size, 4, none⟩ = some (.int .i64 Cv) := (HO2.out).cells.2.2.2.2
                go_wp2_with fail
                try rw [← hW2]
                clear hW2
                refine hpr.mono ?_
                rintro e z1 ⟨b1, rfl, hlb, hpa, hb3⟩
                rw [show ptrA ⟨true, Av, Bv, 0, 0, 0⟩ b1 = .pointer (some ⟨b1, 0, none⟩) from rfl]
                clear hpr f0 f1 f2 f3 f4
                have hx3 := HX2.out.below hb3
                have ho3 := HO2.out.below hb3
                have hm1 := HS2.out.below hb3
                have hsz1 := hb3.size
                have f2 : z1.cell? ⟨wr.heap.size, 2, none⟩ = some (.int .i64 Av) := (ho3).cells.2.2.1
                have f3 : z1.cell? ⟨wr.heap.size, 3, none⟩ = some (.int .i64 Bv) := (ho3).cells.2.2.2.1
                go_wp2_with fail
                refine (hrf z1).mono ?_
                rintro e z2 ⟨rfl, hz2⟩
                clear hrf f2 f3
                have hx4 := hx3.below hz2
                have ho4 := ho3.below hz2
                have hm2 := hm1.below hz2
                have hpa2 := hpa.below hz2
                have hsz2 := hz2.size
                have hwb : w.heap.size ≤ wr.heap.size + 1 := by have := HS.out.bel.size; omega
                have hxn : wr.heap.size + 1 < z2.heap.size := by omega
                have hon : wr.heap.size < z2.heap.size := by omega
                have hhn : h < z2.heap.size := by omega
                have hqn : q < z2.heap.size := by omega
                obtain ⟨y0, y1, y2, y3, y4, y5, y6⟩ := (hx4).cells
                have hnb : wr.heap.size + 1 ≠ b1 := by omega
                have HXZ := hide_it (hx4.put ⟨true, Av, Bv, 0, 0, 0⟩)
                have HOZ := hide_it (ho4.keep (set6_off z2 (wr.heap.size + 1) 0 ⟨true, Av, Bv, 0, 0, 0⟩ (j := wr.heap.size) (by omega)))
                have HPZ : Hid (Pa (set6 z2 (wr.heap.size + 1) 0 ⟨true, Av, Bv, 0, 0, 0⟩) b1 ⟨true, Av, Bv, 0, 0, 0⟩) := hide_it (hpa2.keep (set6_off _ _ _ _ hnb.symm))
                have HMZ := hide_it (hm2.box hwb hx4 ⟨true, Av, Bv, 0, 0, 0⟩)
                have hsZ := (set6_chg z2 (wr.heap.size + 1) 0 ⟨true, Av, Bv, 0, 0, 0⟩).size
                clear hm1 hm2 hpa hpa2 hx3 hx4 ho3 ho4 hz2 hb3
                go_upto_region 21 with fail
                obtain ⟨Z, hZ⟩ : ∃ Z, Z = (((((z2.setCell ⟨wr.heap.size + 1, 0, none⟩ (.bool true)).setCell ⟨wr.heap.size + 1, 1, none⟩ (.int .i64 Av)).setCell ⟨wr.heap.size + 1, 2, none⟩ (.int .i64 Bv)).setCell ⟨wr.heap.size + 1, 3, none⟩ (.int .i64 0)).setCell ⟨wr.heap.size + 1, 4, none⟩ (.int .i64 0)).setCell ⟨wr.heap.size + 1, 5, none⟩ (.int .i64 0) := ⟨_, rfl⟩
                have hZ2 : set6 z2 (wr.heap.size + 1) 0 ⟨true, Av, Bv, 0, 0, 0⟩ = Z := hZ.symm
                rw [hZ2] at HXZ HOZ HPZ HMZ hsZ
                rw [← hZ]
                clear hZ hZ2 y0 y1 y2 y3 y4 y5 y6
                have hxn2 : wr.heap.size + 1 < Z.heap.size := by omega
                have hon2 : wr.heap.size < Z.heap.size := by omega
                have hhn2 : h < Z.heap.size := by omega
                have hqn2 : q < Z.heap.size := by omega
                obtain ⟨y0, y1, y2, y3, y4, y5, y6⟩ := (HXZ.out).cells
                simp only at y0 y1 y2 y3 y4 y5
                go_wp2
                go_roundw
                case rel =>
                  exact ⟨k + 1, C, P, by omega, by go_num, HMZ.out⟩
                case measure => simp [intOf]; omega
              · skip
                have hpr := made_any ⟨0, X, Av, Bv, Cv⟩ W2
                simp only at hpr
                rw [e1, e2] at hpr
                have hrf := rnew_any Av Bv
                rw [e1, e2] at hrf
                have Hok2 : Hid (AcOk noAc) := hide_it (by have := newA_ok Av Bv; rwa [e1] at this)
                unfold valA at hrf
                simp only [noAc] at hrf
                clear e1 e2
                have f0 : W2.cell? ⟨wr.heap.size, 0, none⟩ = some (.int .i64 0) := (HO2.out).cells.1
                have f1 : W2.cell? ⟨wr.heap.size, 1, none⟩ = some (.int .i64 X) := (HO2.out).cells.2.1
                have f2 : W2.cell? ⟨wr.heap.size, 2, none⟩ = some (.int .i64 Av) := (HO2.out).cells.2.2.1
                have f3 : W2.cell? ⟨wr.heap.size, 3, none⟩ = some (.int .i64 Bv) := (HO2.out).cells.2.2.2.1
                have f4 : W2.cell? ⟨wr.heap.size, 4, none⟩ = some (.int .i64 Cv) := (HO2.out).cells.2.2.2.2
                go_wp2_with fail
                try rw [← hW2]
                clear hW2
                refine hpr.mono ?_
                rintro e z1 ⟨b1, rfl, hlb, hpa, hb3⟩
                rw [show ptrA noAc b1 = .pointer none from rfl]
                clear hpr f0 f1 f2 f3 f4
                have hx3 := HX2.out.below hb3
                have ho3 := HO2.out.below hb3
                have hm1 := HS2.out.below hb3
                have hsz1 := hb3.size
                have f2 : z1.cell? ⟨wr.heap.size, 2, none⟩ = some (.int .i64 Av) := (ho3).cells.2.2.1
                have f3 : z1.cell? ⟨wr.heap.size, 3, none⟩ = some (.int .i64 Bv) := (ho3).cells.2.2.2.1
                go_wp2_with fail
                refine (hrf z1).mono ?_
                rintro e z2 ⟨rfl, hz2⟩
                clear hrf f2 f3
                have hx4 := hx3.below hz2
                have ho4 := ho3.below hz2
                have hm2 := hm1.below hz2
                have hpa2 := hpa.below hz2
                have hsz2 := hz2.size
                have hwb : w.heap.size ≤ wr.heap.size + 1 := by have := HS.out.bel.size; omega
                have hxn : wr.heap.size + 1 < z2.heap.size := by omega
                have hon : wr.heap.size < z2.heap.size := by omega
                have hhn : h < z2.heap.size := by omega
                have hqn : q < z2.heap.size := by omega
                obtain ⟨y0, y1, y2, y3, y4, y5, y6⟩ := (hx4).cells
                have hnb : wr.heap.size + 1 ≠ b1 := by omega
                have HXZ := hide_it (hx4.put noAc)
                have HOZ := hide_it (ho4.keep (set6_off z2 (wr.heap.size + 1) 0 noAc (j := wr.heap.size) (by omega)))
                have HPZ : Hid (Pa (set6 z2 (wr.heap.size + 1) 0 noAc) b1 noAc) := hide_it (hpa2.keep (set6_off _ _ _ _ hnb.symm))
                have HMZ := hide_it (hm2.box hwb hx4 noAc)
                have hsZ := (set6_chg z2 (wr.heap.size + 1) 0 noAc).size
                clear hm1 hm2 hpa hpa2 hx3 hx4 ho3 ho4 hz2 hb3
                go_upto_region 21 with fail
                obtain ⟨Z, hZ⟩ : ∃ Z, Z = (((((z2.setCell ⟨wr.heap.size + 1, 0, none⟩ (.bool false)).setCell ⟨wr.heap.size + 1, 1, none⟩ (.int .i64 0)).setCell ⟨wr.heap.size + 1, 2, none⟩ (.int .i64 0)).setCell ⟨wr.heap.size + 1, 3, none⟩ (.int .i64 0)).setCell ⟨wr.heap.size + 1, 4, none⟩ (.int .i64 0)).setCell ⟨wr.heap.size + 1, 5, none⟩ (.int .i64 0) := ⟨_, rfl⟩
                have hZ2 : set6 z2 (wr.heap.size + 1) 0 noAc = Z := hZ.symm
                rw [hZ2] at HXZ HOZ HPZ HMZ hsZ
                rw [← hZ]
                clear hZ hZ2 y0 y1 y2 y3 y4 y5 y6
                have hxn2 : wr.heap.size + 1 < Z.heap.size := by omega
                have hon2 : wr.heap.size < Z.heap.size := by omega
                have hhn2 : h < Z.heap.size := by omega
                have hqn2 : q < Z.heap.size := by omega
                obtain ⟨y0, y1, y2, y3, y4, y5, y6⟩ := (HXZ.out).cells
                simp only [noAc] at y0 y1 y2 y3 y4 y5
                go_wp2
                go_roundw
                case rel =>
                  exact ⟨k + 1, C, P, by omega, by go_num, HMZ.out⟩
                case measure => simp [intOf]; omega
            · skip
              by_cases k1 : K = 1
              · subst k1
                have hpr := begin_any c Hok.out p W2 Hpk2.out
                rw [← HV.out] at hpr
                have hrf := rbegin_any c Hok.out
                have Hok2 := hide_it (begA_ok Hok.out)
                have Ht2 := hide_it (begA_t c)
                obtain ⟨E, hE⟩ : ∃ E, E = begE c := ⟨_, rfl⟩
                rw [← hE] at hpr
                simp only [← hE] at hrf
                clear hE
                have hee : (E == E) = true := by simp
                obtain ⟨d, hd⟩ : ∃ d, d = begA c := ⟨_, rfl⟩
                rw [← hd] at hpr Hok2 Ht2
                simp only [← hd] at hrf
                clear hd
                unfold valA at hrf
                go_wp2_with fail
                try rw [← hW2]
                clear hW2
                refine hpr.mono ?_
                rintro e z1 ⟨rfl, htk⟩
                clear hpr
                have hplt : c.t = true → p < wr.heap.size := fun e => Hpk.out.lt e
                have hx3 : BoxA z1 (wr.heap.size + 1) c := HX2.out.keep (htk.chg.block (wr.heap.size + 1) (by have := hs2; omega) (fun x => by have := hplt x.1; omega))
                have ho3 : BoxO z1 wr.heap.size ⟨1, X, Av, Bv, Cv⟩ := HO2.out.keep (htk.chg.block wr.heap.size (by have := hs2; omega) (fun x => by have := hplt x.1; omega))
                have hsz1 := htk.chg.size
                have hm1 : Mid w z1 h q C C P := HS2.out.below (htk.chg.below (fun k hk => by have h8 := hk.1; rw [Hct.out] at h8; cases h8) (Nat.le_refl _))
                obtain ⟨y0, y1, y2, y3, y4, y5, y6⟩ := (hx3).cells
                clear htk hplt
                go_wp2_with fail
                refine (hrf z1).mono ?_
                rintro e z2 ⟨rfl, hz2⟩
                clear hrf y0 y1 y2 y3 y4 y5 y6
                have hx4 := hx3.below hz2
                have ho4 := ho3.below hz2
                have hm2 := hm1.below hz2
                have hsz2 := hz2.size
                have hwb : w.heap.size ≤ wr.heap.size + 1 := by have := HS.out.bel.size; omega
                have hxn : wr.heap.size + 1 < z2.heap.size := by omega
                have hon : wr.heap.size < z2.heap.size := by omega
                have hhn : h < z2.heap.size := by omega
                have hqn : q < z2.heap.size := by omega
                obtain ⟨y0, y1, y2, y3, y4, y5, y6⟩ := (hx4).cells
                have HM := hide_it (hm2.box hwb hx4 d)
                clear hm1 hm2 hx3 hx4 ho3 ho4 hz2
                go_wp2
                go_roundw
                case rel =>
                  exact ⟨k + 1, C, P, by omega, by go_num, HM.out⟩
                case measure => simp [intOf]; omega
              · skip
                by_cases k2 : K = 2
                · subst k2
                  have hpr := charge_any c Hok.out p W2 Hpk2.out Av Bv
                  rw [← HV.out] at hpr
                  have hrf := rcharge_any c Hok.out Av Bv
                  have Hok2 := hide_it (chgA_ok Hok.out Av Bv)
                  have Ht2 := hide_it (chgA_t c Av Bv)
                  obtain ⟨E, hE⟩ : ∃ E, E = chgE c Av Bv := ⟨_, rfl⟩
                  rw [← hE] at hpr
                  simp only [← hE] at hrf
                  clear hE
                  have hee : (E == E) = true := by simp
                  obtain ⟨d, hd⟩ : ∃ d, d = chgA c Av Bv := ⟨_, rfl⟩
                  rw [← hd] at hpr Hok2 Ht2
                  simp only [← hd] at hrf
                  clear hd
                  unfold valA at hrf
                  have f2 : W2.cell? ⟨wr.heap.size, 2, none⟩ = some (.int .i64 Av) := (HO2.out).cells.2.2.1
                  have f3 : W2.cell? ⟨wr.heap.size, 3, none⟩ = some (.int .i64 Bv) := (HO2.out).cells.2.2.2.1
                  go_wp2_with fail
                  try rw [← hW2]
                  clear hW2
                  refine hpr.mono ?_
                  rintro e z1 ⟨rfl, htk⟩
                  clear hpr
                  have hplt : c.t = true → p < wr.heap.size := fun e => Hpk.out.lt e
                  have hx3 : BoxA z1 (wr.heap.size + 1) c := HX2.out.keep (htk.chg.block (wr.heap.size + 1) (by have := hs2; omega) (fun x => by have := hplt x.1; omega))
                  have ho3 : BoxO z1 wr.heap.size ⟨2, X, Av, Bv, Cv⟩ := HO2.out.keep (htk.chg.block wr.heap.size (by have := hs2; omega) (fun x => by have := hplt x.1; omega))
                  have hsz1 := htk.chg.size
                  have hm1 : Mid w z1 h q C C P := HS2.out.below (htk.chg.below (fun k hk => by have h8 := hk.1; rw [Hct.out] at h8; cases h8) (Nat.le_refl _))
                  clear f2 f3
                  have f2 : z1.cell? ⟨wr.heap.size, 2, none⟩ = some (.int .i64 Av) := (ho3).cells.2.2.1
                  have f3 : z1.cell? ⟨wr.heap.size, 3, none⟩ = some (.int .i64 Bv) := (ho3).cells.2.2.2.1
                  obtain ⟨y0, y1, y2, y3, y4, y5, y6⟩ := (hx3).cells
                  clear htk hplt
                  go_wp2_with fail
                  refine (hrf z1).mono ?_
                  rintro e z2 ⟨rfl, hz2⟩
                  clear hrf y0 y1 y2 y3 y4 y5 y6
                  have hx4 := hx3.below hz2
                  have ho4 := ho3.below hz2
                  have hm2 := hm1.below hz2
                  have hsz2 := hz2.size
                  have hwb : w.heap.size ≤ wr.heap.size + 1 := by have := HS.out.bel.size; omega
                  have hxn : wr.heap.size + 1 < z2.heap.size := by omega
                  have hon : wr.heap.size < z2.heap.size := by omega
                  have hhn : h < z2.heap.size := by omega
                  have hqn : q < z2.heap.size := by omega
                  obtain ⟨y0, y1, y2, y3, y4, y5, y6⟩ := (hx4).cells
                  have HM := hide_it (hm2.box hwb hx4 d)
                  clear hm1 hm2 hx3 hx4 ho3 ho4 hz2
                  go_wp2
                  go_roundw
                  case rel =>
                    exact ⟨k + 1, C, P, by omega, by go_num, HM.out⟩
                  case measure => simp [intOf]; omega
                · skip
                  by_cases k3 : K = 3
                  · subst k3
                    have hpr := end_any c Hok.out p W2 Hpk2.out Av
                    rw [← HV.out] at hpr
                    have hrf := rend_any c Hok.out Av
                    have Hok2 := hide_it (endA_ok Hok.out Av)
                    have Ht2 := hide_it (endA_t c Av)
                    obtain ⟨E, hE⟩ : ∃ E, E = endE c Av := ⟨_, rfl⟩
                    rw [← hE] at hpr
                    simp only [← hE] at hrf
                    clear hE
                    have hee : (E == E) = true := by simp
                    obtain ⟨d, hd⟩ : ∃ d, d = endA c Av := ⟨_, rfl⟩
                    rw [← hd] at hpr Hok2 Ht2
                    simp only [← hd] at hrf
                    clear hd
                    unfold valA at hrf
                    have f2 : W2.cell? ⟨wr.heap.size, 2, none⟩ = some (.int .i64 Av) := (HO2.out).cells.2.2.1
                    go_wp2_with fail
                    try rw [← hW2]
                    clear hW2
                    refine hpr.mono ?_
                    rintro e z1 ⟨rfl, htk⟩
                    clear hpr
                    have hplt : c.t = true → p < wr.heap.size := fun e => Hpk.out.lt e
                    have hx3 : BoxA z1 (wr.heap.size + 1) c := HX2.out.keep (htk.chg.block (wr.heap.size + 1) (by have := hs2; omega) (fun x => by have := hplt x.1; omega))
                    have ho3 : BoxO z1 wr.heap.size ⟨3, X, Av, Bv, Cv⟩ := HO2.out.keep (htk.chg.block wr.heap.size (by have := hs2; omega) (fun x => by have := hplt x.1; omega))
                    have hsz1 := htk.chg.size
                    have hm1 : Mid w z1 h q C C P := HS2.out.below (htk.chg.below (fun k hk => by have h8 := hk.1; rw [Hct.out] at h8; cases h8) (Nat.le_refl _))
                    clear f2
                    have f2 : z1.cell? ⟨wr.heap.size, 2, none⟩ = some (.int .i64 Av) := (ho3).cells.2.2.1
                    obtain ⟨y0, y1, y2, y3, y4, y5, y6⟩ := (hx3).cells
                    clear htk hplt
                    go_wp2_with fail
                    refine (hrf z1).mono ?_
                    rintro e z2 ⟨rfl, hz2⟩
                    clear hrf y0 y1 y2 y3 y4 y5 y6
                    have hx4 := hx3.below hz2
                    have ho4 := ho3.below hz2
                    have hm2 := hm1.below hz2
                    have hsz2 := hz2.size
                    have hwb : w.heap.size ≤ wr.heap.size + 1 := by have := HS.out.bel.size; omega
                    have hxn : wr.heap.size + 1 < z2.heap.size := by omega
                    have hon : wr.heap.size < z2.heap.size := by omega
                    have hhn : h < z2.heap.size := by omega
                    have hqn : q < z2.heap.size := by omega
                    obtain ⟨y0, y1, y2, y3, y4, y5, y6⟩ := (hx4).cells
                    have HM := hide_it (hm2.box hwb hx4 d)
                    clear hm1 hm2 hx3 hx4 ho3 ho4 hz2
                    go_wp2
                    go_roundw
                    case rel =>
                      exact ⟨k + 1, C, P, by omega, by go_num, HM.out⟩
                    case measure => simp [intOf]; omega
                  · skip
                    by_cases k4 : K = 4
                    · subst k4
                      have hpr := settle_any c Hok.out p W2 Hpk2.out Av
                      rw [← HV.out] at hpr
                      have hrf := rsettle_any c Hok.out Av
                      have Hok2 := hide_it (setA_ok Hok.out Av)
                      have Ht2 := hide_it (setA_t c Av)
                      obtain ⟨E, hE⟩ : ∃ E, E = setE c Av := ⟨_, rfl⟩
                      rw [← hE] at hpr
                      simp only [← hE] at hrf
                      clear hE
                      have hee : (E == E) = true := by simp
                      obtain ⟨d, hd⟩ : ∃ d, d = setA c Av := ⟨_, rfl⟩
                      rw [← hd] at hpr Hok2 Ht2
                      simp only [← hd] at hrf
                      clear hd
                      unfold valA at hrf
                      have f2 : W2.cell? ⟨wr.heap.size, 2, none⟩ = some (.int .i64 Av) := (HO2.out).cells.2.2.1
                      go_wp2_with fail
                      try rw [← hW2]
                      clear hW2
                      refine hpr.mono ?_
                      rintro e z1 ⟨rfl, htk⟩
                      clear hpr
                      have hplt : c.t = true → p < wr.heap.size := fun e => Hpk.out.lt e
                      have hx3 : BoxA z1 (wr.heap.size + 1) c := HX2.out.keep (htk.chg.block (wr.heap.size + 1) (by have := hs2; omega) (fun x => by have := hplt x.1; omega))
                      have ho3 : BoxO z1 wr.heap.size ⟨4, X, Av, Bv, Cv⟩ := HO2.out.keep (htk.chg.block wr.heap.size (by have := hs2; omega) (fun x => by have := hplt x.1; omega))
                      have hsz1 := htk.chg.size
                      have hm1 : Mid w z1 h q C C P := HS2.out.below (htk.chg.below (fun k hk => by have h8 := hk.1; rw [Hct.out] at h8; cases h8) (Nat.le_refl _))
                      clear f2
                      have f2 : z1.cell? ⟨wr.heap.size, 2, none⟩ = some (.int .i64 Av) := (ho3).cells.2.2.1
                      obtain ⟨y0, y1, y2, y3, y4, y5, y6⟩ := (hx3).cells
                      clear htk hplt
                      go_wp2_with fail
                      refine (hrf z1).mono ?_
                      rintro e z2 ⟨rfl, hz2⟩
                      clear hrf y0 y1 y2 y3 y4 y5 y6
                      have hx4 := hx3.below hz2
                      have ho4 := ho3.below hz2
                      have hm2 := hm1.below hz2
                      have hsz2 := hz2.size
                      have hwb : w.heap.size ≤ wr.heap.size + 1 := by have := HS.out.bel.size; omega
                      have hxn : wr.heap.size + 1 < z2.heap.size := by omega
                      have hon : wr.heap.size < z2.heap.size := by omega
                      have hhn : h < z2.heap.size := by omega
                      have hqn : q < z2.heap.size := by omega
                      obtain ⟨y0, y1, y2, y3, y4, y5, y6⟩ := (hx4).cells
                      have HM := hide_it (hm2.box hwb hx4 d)
                      clear hm1 hm2 hx3 hx4 ho3 ho4 hz2
                      go_wp2
                      go_roundw
                      case rel =>
                        exact ⟨k + 1, C, P, by omega, by go_num, HM.out⟩
                      case measure => simp [intOf]; omega
                    · skip
                      by_cases k5 : K = 5
                      · subst k5
                        have hpr : ∀ z, Below W2.heap.size W2 z → Calls Try.prog 18 #[.pointer none] z fun e w' => e = .returned (.int .i64 (c.l + c.p)) ∧ Below z.heap.size z w' := fun z hz => by
                          rw [HV.out]; refine (used_any c Hok.out p z (Hpk2.out.below hz)).mono ?_
                          rintro e w' ⟨rfl, h⟩; exact ⟨rfl, h⟩
                        have hbx := (Below.refl W2.heap.size W2).drew
                        have hee : ((c.l + c.p) == (c.l + c.p)) = true := by simp
                        have hrf := rused_any c Hok.out
                        unfold valA at hrf
                        generalize c.l + c.p = U at *
                        go_wp2_with fail
                        try rw [← hW2]
                        clear hW2
                        refine wp_region_held_drew (S := (fun w' => w'.heap[(wr.heap.size + 1)]? = W2.heap[(wr.heap.size + 1)]?)) (by kernel_rfl) ?_ (fun hHeld => ?_)
                        · rfl
                        refine take_on (i := 0) (v := ?_) rfl rfl (by kernel_rfl) (by kernel_rfl) (by kernel_rfl) (fun _ _ _ h => h) rfl ?_ hHeld ?_
                        rotate_left
                        · (intro wq hSq; obtain ⟨cq, hcq, zq, q0, q1, q2, q3, q4, q5⟩ := HX2.out; have hxq := hSq.trans hcq; have y0 := (cell_of_row _ _ 0 _ _ _ hxq).trans q0; have y1 := (cell_of_row _ _ 1 _ _ _ hxq).trans q1; have y2 := (cell_of_row _ _ 2 _ _ _ hxq).trans q2; have y3 := (cell_of_row _ _ 3 _ _ _ hxq).trans q3; have y4 := (cell_of_row _ _ 4 _ _ _ hxq).trans q4; have y5 := (cell_of_row _ _ 5 _ _ _ hxq).trans q5; go_simp <;> first | with_reducible rfl | rfl)
                        simp only [Act.put, List.setIfInBounds_toArray, List.set_cons_zero, List.set_cons_succ]
                        refine take_on (i := 2) (v := ?_) rfl rfl (by kernel_rfl) (by kernel_rfl) (by kernel_rfl) (fun _ _ _ h => h) rfl ?_ hHeld ?_
                        rotate_left
                        · (intro wq hSq; obtain ⟨cq, hcq, zq, q0, q1, q2, q3, q4, q5⟩ := HX2.out; have hxq := hSq.trans hcq; have y0 := (cell_of_row _ _ 0 _ _ _ hxq).trans q0; have y1 := (cell_of_row _ _ 1 _ _ _ hxq).trans q1; have y2 := (cell_of_row _ _ 2 _ _ _ hxq).trans q2; have y3 := (cell_of_row _ _ 3 _ _ _ hxq).trans q3; have y4 := (cell_of_row _ _ 4 _ _ _ hxq).trans q4; have y5 := (cell_of_row _ _ 5 _ _ _ hxq).trans q5; go_simp <;> first | with_reducible rfl | rfl)
                        simp only [Act.put, List.setIfInBounds_toArray, List.set_cons_zero, List.set_cons_succ]
                        refine take_one (i := 1) rfl (by kernel_rfl) (fun K hK => ?_)
                        go_simp
                        (refine (hpr _ hbx).mono ?_; rintro e z1 ⟨rfl, hz1⟩; have hy1 := hbx.trans (hz1.mono (by have := hbx.size; omega)))
                        try go_wp2_with fail
                        refine hK.out _ _ ?_ (fun hHeld => ?_)
                        · exact hy1.block _ (by have := hs2; omega)
                        clear hK K
                        try simp only [Act.put, List.setIfInBounds_toArray, List.set_cons_zero, List.set_cons_succ]
                        refine take_one (i := 3) rfl (by kernel_rfl) (fun K hK => ?_)
                        go_simp
                        (refine (hrf _).mono ?_; rintro e z2 ⟨rfl, hz2⟩; have hy2 := hy1.trans (hz2.mono (by have := hy1.size; omega)))
                        try go_wp2_with fail
                        refine hK.out _ _ ?_ (fun hHeld => ?_)
                        · exact hy2.block _ (by have := hs2; omega)
                        clear hK K
                        try simp only [Act.put, List.setIfInBounds_toArray, List.set_cons_zero, List.set_cons_succ]
                        refine take_on (i := 4) (v := ?_) rfl rfl (by kernel_rfl) (by kernel_rfl) (by kernel_rfl) (fun _ _ _ h => h) rfl ?_ hHeld ?_
                        rotate_left
                        · (intro wq hSq; obtain ⟨cq, hcq, zq, q0, q1, q2, q3, q4, q5⟩ := HX2.out; have hxq := hSq.trans hcq; have y0 := (cell_of_row _ _ 0 _ _ _ hxq).trans q0; have y1 := (cell_of_row _ _ 1 _ _ _ hxq).trans q1; have y2 := (cell_of_row _ _ 2 _ _ _ hxq).trans q2; have y3 := (cell_of_row _ _ 3 _ _ _ hxq).trans q3; have y4 := (cell_of_row _ _ 4 _ _ _ hxq).trans q4; have y5 := (cell_of_row _ _ 5 _ _ _ hxq).trans q5; go_simp <;> first | with_reducible rfl | rfl)
                        simp only [Act.put, List.setIfInBounds_toArray, List.set_cons_zero, List.set_cons_succ]
                        refine take_on (i := 5) (v := ?_) rfl rfl (by kernel_rfl) (by kernel_rfl) (by kernel_rfl) (fun _ _ _ h => h) rfl ?_ hHeld ?_
                        rotate_left
                        · (intro wq hSq; obtain ⟨cq, hcq, zq, q0, q1, q2, q3, q4, q5⟩ := HX2.out; have hxq := hSq.trans hcq; have y0 := (cell_of_row _ _ 0 _ _ _ hxq).trans q0; have y1 := (cell_of_row _ _ 1 _ _ _ hxq).trans q1; have y2 := (cell_of_row _ _ 2 _ _ _ hxq).trans q2; have y3 := (cell_of_row _ _ 3 _ _ _ hxq).trans q3; have y4 := (cell_of_row _ _ 4 _ _ _ hxq).trans q4; have y5 := (cell_of_row _ _ 5 _ _ _ hxq).trans q5; go_simp <;> first | with_reducible rfl | rfl)
                        simp only [Act.put, List.setIfInBounds_toArray, List.set_cons_zero, List.set_cons_succ]
                        refine wpAnyH_done (by kernel_rfl) ?_ _
                        have HZ := hide_it hy2
                        clear hpr hbx hrf hy1 hy2 hz1 hz2
                        go_wp2
                        go_roundw
                        case rel =>
                          exact ⟨k + 1, C, P, by omega, by go_num, HS2.out.below HZ.out⟩
                        case measure => simp [intOf]; omega
                      · skip
                        by_cases k6 : K = 6
                        · subst k6
                          have hpr : ∀ z, Below W2.heap.size W2 z → Calls Try.prog 20 #[.pointer none] z fun e w' => e = .returned (.int .i64 (c.p)) ∧ Below z.heap.size z w' := fun z hz => by
                            rw [HV.out]; refine (pending_any c Hok.out p z (Hpk2.out.below hz)).mono ?_
                            rintro e w' ⟨rfl, rfl⟩; exact ⟨rfl, Below.refl _ _⟩
                          have hbx := (Below.refl W2.heap.size W2).drew
                          have hee : ((c.p) == (c.p)) = true := by simp
                          go_wp2_with fail
                          try rw [← hW2]
                          clear hW2
                          refine wp_region_held_drew (S := (fun w' => w'.heap[(wr.heap.size + 1)]? = W2.heap[(wr.heap.size + 1)]?)) (by kernel_rfl) ?_ (fun hHeld => ?_)
                          · rfl
                          refine take_on (i := 0) (v := ?_) rfl rfl (by kernel_rfl) (by kernel_rfl) (by kernel_rfl) (fun _ _ _ h => h) rfl ?_ hHeld ?_
                          rotate_left
                          · (intro wq hSq; obtain ⟨cq, hcq, zq, q0, q1, q2, q3, q4, q5⟩ := HX2.out; have hxq := hSq.trans hcq; have y0 := (cell_of_row _ _ 0 _ _ _ hxq).trans q0; have y1 := (cell_of_row _ _ 1 _ _ _ hxq).trans q1; have y2 := (cell_of_row _ _ 2 _ _ _ hxq).trans q2; have y3 := (cell_of_row _ _ 3 _ _ _ hxq).trans q3; have y4 := (cell_of_row _ _ 4 _ _ _ hxq).trans q4; have y5 := (cell_of_row _ _ 5 _ _ _ hxq).trans q5; go_simp <;> first | with_reducible rfl | rfl)
                          simp only [Act.put, List.setIfInBounds_toArray, List.set_cons_zero, List.set_cons_succ]
                          refine take_on (i := 2) (v := ?_) rfl rfl (by kernel_rfl) (by kernel_rfl) (by kernel_rfl) (fun _ _ _ h => h) rfl ?_ hHeld ?_
                          rotate_left
                          · (intro wq hSq; obtain ⟨cq, hcq, zq, q0, q1, q2, q3, q4, q5⟩ := HX2.out; have hxq := hSq.trans hcq; have y0 := (cell_of_row _ _ 0 _ _ _ hxq).trans q0; have y1 := (cell_of_row _ _ 1 _ _ _ hxq).trans q1; have y2 := (cell_of_row _ _ 2 _ _ _ hxq).trans q2; have y3 := (cell_of_row _ _ 3 _ _ _ hxq).trans q3; have y4 := (cell_of_row _ _ 4 _ _ _ hxq).trans q4; have y5 := (cell_of_row _ _ 5 _ _ _ hxq).trans q5; go_simp <;> first | with_reducible rfl | rfl)
                          simp only [Act.put, List.setIfInBounds_toArray, List.set_cons_zero, List.set_cons_succ]
                          refine take_on (i := 3) (v := ?_) rfl rfl (by kernel_rfl) (by kernel_rfl) (by kernel_rfl) (fun _ _ _ h => h) rfl ?_ hHeld ?_
                          rotate_left
                          · (intro wq hSq; obtain ⟨cq, hcq, zq, q0, q1, q2, q3, q4, q5⟩ := HX2.out; have hxq := hSq.trans hcq; have y0 := (cell_of_row _ _ 0 _ _ _ hxq).trans q0; have y1 := (cell_of_row _ _ 1 _ _ _ hxq).trans q1; have y2 := (cell_of_row _ _ 2 _ _ _ hxq).trans q2; have y3 := (cell_of_row _ _ 3 _ _ _ hxq).trans q3; have y4 := (cell_of_row _ _ 4 _ _ _ hxq).trans q4; have y5 := (cell_of_row _ _ 5 _ _ _ hxq).trans q5; go_simp <;> first | with_reducible rfl | rfl)
                          simp only [Act.put, List.setIfInBounds_toArray, List.set_cons_zero, List.set_cons_succ]
                          refine take_one (i := 1) rfl (by kernel_rfl) (fun K hK => ?_)
                          go_simp
                          (refine (hpr _ hbx).mono ?_; rintro e z1 ⟨rfl, hz1⟩; have hy1 := hbx.trans (hz1.mono (by have := hbx.size; omega)))
                          try go_wp2_with fail
                          refine hK.out _ _ ?_ (fun hHeld => ?_)
                          · exact hy1.block _ (by have := hs2; omega)
                          clear hK K
                          try simp only [Act.put, List.setIfInBounds_toArray, List.set_cons_zero, List.set_cons_succ]
                          refine take_on (i := 4) (v := ?_) rfl rfl (by kernel_rfl) (by kernel_rfl) (by kernel_rfl) (fun _ _ _ h => h) rfl ?_ hHeld ?_
                          rotate_left
                          · (intro wq hSq; obtain ⟨cq, hcq, zq, q0, q1, q2, q3, q4, q5⟩ := HX2.out; have hxq := hSq.trans hcq; have y0 := (cell_of_row _ _ 0 _ _ _ hxq).trans q0; have y1 := (cell_of_row _ _ 1 _ _ _ hxq).trans q1; have y2 := (cell_of_row _ _ 2 _ _ _ hxq).trans q2; have y3 := (cell_of_row _ _ 3 _ _ _ hxq).trans q3; have y4 := (cell_of_row _ _ 4 _ _ _ hxq).trans q4; have y5 := (cell_of_row _ _ 5 _ _ _ hxq).trans q5; go_simp <;> first | with_reducible rfl | rfl)
                          simp only [Act.put, List.setIfInBounds_toArray, List.set_cons_zero, List.set_cons_succ]
                          refine take_on (i := 5) (v := ?_) rfl rfl (by kernel_rfl) (by kernel_rfl) (by kernel_rfl) (fun _ _ _ h => h) rfl ?_ hHeld ?_
                          rotate_left
                          · (intro wq hSq; obtain ⟨cq, hcq, zq, q0, q1, q2, q3, q4, q5⟩ := HX2.out; have hxq := hSq.trans hcq; have y0 := (cell_of_row _ _ 0 _ _ _ hxq).trans q0; have y1 := (cell_of_row _ _ 1 _ _ _ hxq).trans q1; have y2 := (cell_of_row _ _ 2 _ _ _ hxq).trans q2; have y3 := (cell_of_row _ _ 3 _ _ _ hxq).trans q3; have y4 := (cell_of_row _ _ 4 _ _ _ hxq).trans q4; have y5 := (cell_of_row _ _ 5 _ _ _ hxq).trans q5; go_simp <;> first | with_reducible rfl | rfl)
                          simp only [Act.put, List.setIfInBounds_toArray, List.set_cons_zero, List.set_cons_succ]
                          refine wpAnyH_done (by kernel_rfl) ?_ _
                          have HZ := hide_it hy1
                          clear hpr hbx hy1 hz1
                          go_wp2
                          go_roundw
                          case rel =>
                            exact ⟨k + 1, C, P, by omega, by go_num, HS2.out.below HZ.out⟩
                          case measure => simp [intOf]; omega
                        · skip
                          by_cases k7 : K = 7
                          · subst k7
                            have hpr : ∀ z, Below W2.heap.size W2 z → Calls Try.prog 21 #[.pointer none] z fun e w' => e = .returned (.int .i64 (c.o)) ∧ Below z.heap.size z w' := fun z hz => by
                              rw [HV.out]; refine (open_any c Hok.out p z (Hpk2.out.below hz)).mono ?_
                              rintro e w' ⟨rfl, rfl⟩; exact ⟨rfl, Below.refl _ _⟩
                            have hbx := (Below.refl W2.heap.size W2).drew
                            have hee : ((c.o) == (c.o)) = true := by simp
                            go_wp2_with fail
                            try rw [← hW2]
                            clear hW2
                            refine wp_region_held_drew (S := (fun w' => w'.heap[(wr.heap.size + 1)]? = W2.heap[(wr.heap.size + 1)]?)) (by kernel_rfl) ?_ (fun hHeld => ?_)
                            · rfl
                            refine take_on (i := 0) (v := ?_) rfl rfl (by kernel_rfl) (by kernel_rfl) (by kernel_rfl) (fun _ _ _ h => h) rfl ?_ hHeld ?_
                            rotate_left
                            · (intro wq hSq; obtain ⟨cq, hcq, zq, q0, q1, q2, q3, q4, q5⟩ := HX2.out; have hxq := hSq.trans hcq; have y0 := (cell_of_row _ _ 0 _ _ _ hxq).trans q0; have y1 := (cell_of_row _ _ 1 _ _ _ hxq).trans q1; have y2 := (cell_of_row _ _ 2 _ _ _ hxq).trans q2; have y3 := (cell_of_row _ _ 3 _ _ _ hxq).trans q3; have y4 := (cell_of_row _ _ 4 _ _ _ hxq).trans q4; have y5 := (cell_of_row _ _ 5 _ _ _ hxq).trans q5; go_simp <;> first | with_reducible rfl | rfl)
                            simp only [Act.put, List.setIfInBounds_toArray, List.set_cons_zero, List.set_cons_succ]
                            refine take_on (i := 2) (v := ?_) rfl rfl (by kernel_rfl) (by kernel_rfl) (by kernel_rfl) (fun _ _ _ h => h) rfl ?_ hHeld ?_
                            rotate_left
                            · (intro wq hSq; obtain ⟨cq, hcq, zq, q0, q1, q2, q3, q4, q5⟩ := HX2.out; have hxq := hSq.trans hcq; have y0 := (cell_of_row _ _ 0 _ _ _ hxq).trans q0; have y1 := (cell_of_row _ _ 1 _ _ _ hxq).trans q1; have y2 := (cell_of_row _ _ 2 _ _ _ hxq).trans q2; have y3 := (cell_of_row _ _ 3 _ _ _ hxq).trans q3; have y4 := (cell_of_row _ _ 4 _ _ _ hxq).trans q4; have y5 := (cell_of_row _ _ 5 _ _ _ hxq).trans q5; go_simp <;> first | with_reducible rfl | rfl)
                            simp only [Act.put, List.setIfInBounds_toArray, List.set_cons_zero, List.set_cons_succ]
                            refine take_on (i := 3) (v := ?_) rfl rfl (by kernel_rfl) (by kernel_rfl) (by kernel_rfl) (fun _ _ _ h => h) rfl ?_ hHeld ?_
                            rotate_left
                            · (intro wq hSq; obtain ⟨cq, hcq, zq, q0, q1, q2, q3, q4, q5⟩ := HX2.out; have hxq := hSq.trans hcq; have y0 := (cell_of_row _ _ 0 _ _ _ hxq).trans q0; have y1 := (cell_of_row _ _ 1 _ _ _ hxq).trans q1; have y2 := (cell_of_row _ _ 2 _ _ _ hxq).trans q2; have y3 := (cell_of_row _ _ 3 _ _ _ hxq).trans q3; have y4 := (cell_of_row _ _ 4 _ _ _ hxq).trans q4; have y5 := (cell_of_row _ _ 5 _ _ _ hxq).trans q5; go_simp <;> first | with_reducible rfl | rfl)
                            simp only [Act.put, List.setIfInBounds_toArray, List.set_cons_zero, List.set_cons_succ]
                            refine take_one (i := 1) rfl (by kernel_rfl) (fun K hK => ?_)
                            go_simp
                            (refine (hpr _ hbx).mono ?_; rintro e z1 ⟨rfl, hz1⟩; have hy1 := hbx.trans (hz1.mono (by have := hbx.size; omega)))
                            try go_wp2_with fail
                            refine hK.out _ _ ?_ (fun hHeld => ?_)
                            · exact hy1.block _ (by have := hs2; omega)
                            clear hK K
                            try simp only [Act.put, List.setIfInBounds_toArray, List.set_cons_zero, List.set_cons_succ]
                            refine take_on (i := 4) (v := ?_) rfl rfl (by kernel_rfl) (by kernel_rfl) (by kernel_rfl) (fun _ _ _ h => h) rfl ?_ hHeld ?_
                            rotate_left
                            · (intro wq hSq; obtain ⟨cq, hcq, zq, q0, q1, q2, q3, q4, q5⟩ := HX2.out; have hxq := hSq.trans hcq; have y0 := (cell_of_row _ _ 0 _ _ _ hxq).trans q0; have y1 := (cell_of_row _ _ 1 _ _ _ hxq).trans q1; have y2 := (cell_of_row _ _ 2 _ _ _ hxq).trans q2; have y3 := (cell_of_row _ _ 3 _ _ _ hxq).trans q3; have y4 := (cell_of_row _ _ 4 _ _ _ hxq).trans q4; have y5 := (cell_of_row _ _ 5 _ _ _ hxq).trans q5; go_simp <;> first | with_reducible rfl | rfl)
                            simp only [Act.put, List.setIfInBounds_toArray, List.set_cons_zero, List.set_cons_succ]
                            refine take_on (i := 5) (v := ?_) rfl rfl (by kernel_rfl) (by kernel_rfl) (by kernel_rfl) (fun _ _ _ h => h) rfl ?_ hHeld ?_
                            rotate_left
                            · (intro wq hSq; obtain ⟨cq, hcq, zq, q0, q1, q2, q3, q4, q5⟩ := HX2.out; have hxq := hSq.trans hcq; have y0 := (cell_of_row _ _ 0 _ _ _ hxq).trans q0; have y1 := (cell_of_row _ _ 1 _ _ _ hxq).trans q1; have y2 := (cell_of_row _ _ 2 _ _ _ hxq).trans q2; have y3 := (cell_of_row _ _ 3 _ _ _ hxq).trans q3; have y4 := (cell_of_row _ _ 4 _ _ _ hxq).trans q4; have y5 := (cell_of_row _ _ 5 _ _ _ hxq).trans q5; go_simp <;> first | with_reducible rfl | rfl)
                            simp only [Act.put, List.setIfInBounds_toArray, List.set_cons_zero, List.set_cons_succ]
                            refine wpAnyH_done (by kernel_rfl) ?_ _
                            have HZ := hide_it hy1
                            clear hpr hbx hy1 hz1
                            go_wp2
                            go_roundw
                            case rel =>
                              exact ⟨k + 1, C, P, by omega, by go_num, HS2.out.below HZ.out⟩
                            case measure => simp [intOf]; omega
                          · skip
                            have n0 : (K == 0) = false := by simpa using k0
                            have n1 : (K == 1) = false := by simpa using k1
                            have n2 : (K == 2) = false := by simpa using k2
                            have n3 : (K == 3) = false := by simpa using k3
                            have n4 : (K == 4) = false := by simpa using k4
                            have n5 : (K == 5) = false := by simpa using k5
                            have n6 : (K == 6) = false := by simpa using k6
                            have n7 : (K == 7) = false := by simpa using k7
                            clear k0 k1 k2 k3 k4 k5 k6 k7
                            clear hW2
                            go_wp2
                            go_roundw
                            case rel =>
                              exact ⟨k + 1, C, P, by omega, by go_num, HS.out.below (((Below.refl _ _).alloc (Nat.le_refl _) _).alloc (by simp) _)⟩
                            case measure => simp [intOf]; omega
    · have HS := hide_it hS
      clear hS hrow
      go_wp2_with fail
      go_loopw [13] (fun i wr' => ∃ j : Nat, j ≤ 3 ∧ i = .int .i64 j ∧ Mid w wr' h q C C P) (fun i _ => 3 - (intOf i).toNat)
      case atStart => exact ⟨0, by omega, rfl, HS.out⟩
      case round =>
        obtain ⟨j, hj, rfl, hS3⟩ := hrel
        by_cases hj3 : j < 3
        · have hji : (j : Int) < 3 := by omega
          have hw1 : IntKind.i64.wrap ((j : Int) + 1) = (j : Int) + 1 := i64_in (by omega) (by omega)
          obtain ⟨x0, x1, x2, x3, x4, x5, x6, _, _⟩ := hS3.cells hj3
          have hsh := shown_any (C j) (hS3.ok j hj3) (P j)
          have Hpk := hide_it (hS3.pk j hj3)
          generalize C j = c at *
          generalize P j = p at *
          obtain ⟨pp, hV⟩ : ∃ pp, Value.pointer pp = ptrA c p := ⟨_, rfl⟩
          rw [← hV] at x0 hsh
          clear hV
          unfold valA at hsh
          obtain ⟨lh, lq⟩ := hS3.lt
          have HS3 := hide_it hS3
          clear hS3
          have hy0 := (Below.refl wr.heap.size wr).drew
          go_wp2_with fail
          refine wp_region_held_drew (S := (fun w' => w'.heap[h]? = wr.heap[h]? ∧ w'.heap[q]? = wr.heap[q]?)) (by kernel_rfl) ?_ (fun hHeld => ?_)
          · exact ⟨rfl, rfl⟩
          refine take_on (i := 0) (v := ?_) rfl rfl (by kernel_rfl) (by kernel_rfl) (by kernel_rfl) (fun _ _ _ h => h) rfl ?_ hHeld ?_
          rotate_left
          · (intro wq hSq; have s0 := (World.cell?_of_block (w := wr) (a := ⟨h, j, none⟩) hSq.1).trans x0; have s1 := (World.cell?_of_block (w := wr) (a := ⟨q, j * 6, none⟩) hSq.2).trans x1; have s2 := (World.cell?_of_block (w := wr) (a := ⟨q, j * 6 + 1, none⟩) hSq.2).trans x2; have s3 := (World.cell?_of_block (w := wr) (a := ⟨q, j * 6 + 2, none⟩) hSq.2).trans x3; have s4 := (World.cell?_of_block (w := wr) (a := ⟨q, j * 6 + 3, none⟩) hSq.2).trans x4; have s5 := (World.cell?_of_block (w := wr) (a := ⟨q, j * 6 + 4, none⟩) hSq.2).trans x5; have s6 := (World.cell?_of_block (w := wr) (a := ⟨q, j * 6 + 5, none⟩) hSq.2).trans x6; go_simp <;> first | with_reducible rfl | rfl)
          simp only [Act.put, List.setIfInBounds_toArray, List.set_cons_zero, List.set_cons_succ]
          refine take_on (i := 1) (v := ?_) rfl rfl (by kernel_rfl) (by kernel_rfl) (by kernel_rfl) (fun _ _ _ h => h) rfl ?_ hHeld ?_
          rotate_left
          · (intro wq hSq; have s0 := (World.cell?_of_block (w := wr) (a := ⟨h, j, none⟩) hSq.1).trans x0; have s1 := (World.cell?_of_block (w := wr) (a := ⟨q, j * 6, none⟩) hSq.2).trans x1; have s2 := (World.cell?_of_block (w := wr) (a := ⟨q, j * 6 + 1, none⟩) hSq.2).trans x2; have s3 := (World.cell?_of_block (w := wr) (a := ⟨q, j * 6 + 2, none⟩) hSq.2).trans x3; have s4 := (World.cell?_of_block (w := wr) (a := ⟨q, j * 6 + 3, none⟩) hSq.2).trans x4; have s5 := (World.cell?_of_block (w := wr) (a := ⟨q, j * 6 + 4, none⟩) hSq.2).trans x5; have s6 := (World.cell?_of_block (w := wr) (a := ⟨q, j * 6 + 5, none⟩) hSq.2).trans x6; go_simp <;> first | with_reducible rfl | rfl)
          simp only [Act.put, List.setIfInBounds_toArray, List.set_cons_zero, List.set_cons_succ]
          refine take_on (i := 2) (v := ?_) rfl rfl (by kernel_rfl) (by kernel_rfl) (by kernel_rfl) (fun _ _ _ h => h) rfl ?_ hHeld ?_
          rotate_left
          · (intro wq hSq; have s0 := (World.cell?_of_block (w := wr) (a := ⟨h, j, none⟩) hSq.1).trans x0; have s1 := (World.cell?_of_block (w := wr) (a := ⟨q, j * 6, none⟩) hSq.2).trans x1; have s2 := (World.cell?_of_block (w := wr) (a := ⟨q, j * 6 + 1, none⟩) hSq.2).trans x2; have s3 := (World.cell?_of_block (w := wr) (a := ⟨q, j * 6 + 2, none⟩) hSq.2).trans x3; have s4 := (World.cell?_of_block (w := wr) (a := ⟨q, j * 6 + 3, none⟩) hSq.2).trans x4; have s5 := (World.cell?_of_block (w := wr) (a := ⟨q, j * 6 + 4, none⟩) hSq.2).trans x5; have s6 := (World.cell?_of_block (w := wr) (a := ⟨q, j * 6 + 5, none⟩) hSq.2).trans x6; go_simp <;> first | with_reducible rfl | rfl)
          simp only [Act.put, List.setIfInBounds_toArray, List.set_cons_zero, List.set_cons_succ]
          refine take_on (i := 3) (v := ?_) rfl rfl (by kernel_rfl) (by kernel_rfl) (by kernel_rfl) (fun _ _ _ h => h) rfl ?_ hHeld ?_
          rotate_left
          · (intro wq hSq; have s0 := (World.cell?_of_block (w := wr) (a := ⟨h, j, none⟩) hSq.1).trans x0; have s1 := (World.cell?_of_block (w := wr) (a := ⟨q, j * 6, none⟩) hSq.2).trans x1; have s2 := (World.cell?_of_block (w := wr) (a := ⟨q, j * 6 + 1, none⟩) hSq.2).trans x2; have s3 := (World.cell?_of_block (w := wr) (a := ⟨q, j * 6 + 2, none⟩) hSq.2).trans x3; have s4 := (World.cell?_of_block (w := wr) (a := ⟨q, j * 6 + 3, none⟩) hSq.2).trans x4; have s5 := (World.cell?_of_block (w := wr) (a := ⟨q, j * 6 + 4, none⟩) hSq.2).trans x5; have s6 := (World.cell?_of_block (w := wr) (a := ⟨q, j * 6 + 5, none⟩) hSq.2).trans x6; go_simp <;> first | with_reducible rfl | rfl)
          simp only [Act.put, List.setIfInBounds_toArray, List.set_cons_zero, List.set_cons_succ]
          refine take_on (i := 4) (v := ?_) rfl rfl (by kernel_rfl) (by kernel_rfl) (by kernel_rfl) (fun _ _ _ h => h) rfl ?_ hHeld ?_
          rotate_left
          · (intro wq hSq; have s0 := (World.cell?_of_block (w := wr) (a := ⟨h, j, none⟩) hSq.1).trans x0; have s1 := (World.cell?_of_block (w := wr) (a := ⟨q, j * 6, none⟩) hSq.2).trans x1; have s2 := (World.cell?_of_block (w := wr) (a := ⟨q, j * 6 + 1, none⟩) hSq.2).trans x2; have s3 := (World.cell?_of_block (w := wr) (a := ⟨q, j * 6 + 2, none⟩) hSq.2).trans x3; have s4 := (World.cell?_of_block (w := wr) (a := ⟨q, j * 6 + 3, none⟩) hSq.2).trans x4; have s5 := (World.cell?_of_block (w := wr) (a := ⟨q, j * 6 + 4, none⟩) hSq.2).trans x5; have s6 := (World.cell?_of_block (w := wr) (a := ⟨q, j * 6 + 5, none⟩) hSq.2).trans x6; go_simp <;> first | with_reducible rfl | rfl)
          simp only [Act.put, List.setIfInBounds_toArray, List.set_cons_zero, List.set_cons_succ]
          refine take_on (i := 5) (v := ?_) rfl rfl (by kernel_rfl) (by kernel_rfl) (by kernel_rfl) (fun _ _ _ h => h) rfl ?_ hHeld ?_
          rotate_left
          · (intro wq hSq; have s0 := (World.cell?_of_block (w := wr) (a := ⟨h, j, none⟩) hSq.1).trans x0; have s1 := (World.cell?_of_block (w := wr) (a := ⟨q, j * 6, none⟩) hSq.2).trans x1; have s2 := (World.cell?_of_block (w := wr) (a := ⟨q, j * 6 + 1, none⟩) hSq.2).trans x2; have s3 := (World.cell?_of_block (w := wr) (a := ⟨q, j * 6 + 2, none⟩) hSq.2).trans x3; have s4 := (World.cell?_of_block (w := wr) (a := ⟨q, j * 6 + 3, none⟩) hSq.2).trans x4; have s5 := (World.cell?_of_block (w := wr) (a := ⟨q, j * 6 + 4, none⟩) hSq.2).trans x5; have s6 := (World.cell?_of_block (w := wr) (a := ⟨q, j * 6 + 5, none⟩) hSq.2).trans x6; go_simp <;> first | with_reducible rfl | rfl)
          simp only [Act.put, List.setIfInBounds_toArray, List.set_cons_zero, List.set_cons_succ]
          refine take_one (i := 6) rfl (by kernel_rfl) (fun K hK => ?_)
          go_simp
          (refine (hsh _ (Hpk.out.below hy0)).mono ?_; rintro e z1 ⟨rfl, hz1⟩; have hy1 := hy0.trans (hz1.mono (by have := hy0.size; omega)))
          try go_wp2_with fail
          refine hK.out _ _ ?_ (fun hHeld => ?_)
          · exact ⟨hy1.block _ lh, hy1.block _ lq⟩
          clear hK K
          try simp only [Act.put, List.setIfInBounds_toArray, List.set_cons_zero, List.set_cons_succ]
          refine take_on (i := 7) (v := ?_) rfl rfl (by kernel_rfl) (by kernel_rfl) (by kernel_rfl) (fun _ _ _ h => h) rfl ?_ hHeld ?_
          rotate_left
          · (intro wq hSq; have s0 := (World.cell?_of_block (w := wr) (a := ⟨h, j, none⟩) hSq.1).trans x0; have s1 := (World.cell?_of_block (w := wr) (a := ⟨q, j * 6, none⟩) hSq.2).trans x1; have s2 := (World.cell?_of_block (w := wr) (a := ⟨q, j * 6 + 1, none⟩) hSq.2).trans x2; have s3 := (World.cell?_of_block (w := wr) (a := ⟨q, j * 6 + 2, none⟩) hSq.2).trans x3; have s4 := (World.cell?_of_block (w := wr) (a := ⟨q, j * 6 + 3, none⟩) hSq.2).trans x4; have s5 := (World.cell?_of_block (w := wr) (a := ⟨q, j * 6 + 4, none⟩) hSq.2).trans x5; have s6 := (World.cell?_of_block (w := wr) (a := ⟨q, j * 6 + 5, none⟩) hSq.2).trans x6; go_simp <;> first | with_reducible rfl | rfl)
          simp only [Act.put, List.setIfInBounds_toArray, List.set_cons_zero, List.set_cons_succ]
          refine wpAnyH_done (by kernel_rfl) ?_ _
          have HY := hide_it hy1
          clear hz1 hsh hy0 hy1
          go_wp2
          go_roundw
          case rel => exact ⟨j + 1, by omega, by go_num, HS3.out.below HY.out⟩
          case measure => simp [intOf]; omega
        · have HB := hide_it hS3.bel
          clear hS3
          go_wp2
          go_ret
          exact ⟨rfl, HB.out⟩
end Go.Proofs.Ytepkhohaahmebaa.quotaScript
