/- The law on a key alone, walked. -/
import Derived.Test.YtcdlalmahjjbgabSo26
namespace Go.Proofs.Ytcdlalmahjjbgab.storeApart
open Go.RowKit Go.Maps

theorem wd0 (w : World) : (w.alloc (.cells #[.map none] 96)).heap.size = w.heap.size + 1 := by simp

set_option maxRecDepth 100000 in
set_option maxHeartbeats 4000000 in
theorem walk (key : ByteArray) (a : Option Addr) (n c : Nat) (A : Nat → Stv) (w : World) (_ : key.size ≤ 140737488351232) (ha : CameStv w a n A) :
    Calls Try.prog 5 #[.string key, .slice a n c] w fun e w' => e = .returned (.bool true) ∧ Below w.heap.size w w' := by
  have hn := ha.size
  have hrow := ha.row
  have heach := hide_it ha.each
  clear ha
  have hS0 := duo_new w
  have hnew := new_any w
  have hnew2 := new_any (w.alloc (.cells #[.map none] 96))
  rw [wd0] at hnew2
  obtain ⟨V1, hV1⟩ : ∃ W, W = w.alloc (.cells #[.map none] 96) := ⟨_, rfl⟩
  rw [← hV1] at hS0 hnew hnew2
  obtain ⟨V2, hV2⟩ : ∃ W, W = V1.alloc (.cells #[.map none] 96) := ⟨_, rfl⟩
  rw [← hV2] at hS0 hnew2
  obtain ⟨s1, hs1⟩ : ∃ q, q = w.heap.size := ⟨_, rfl⟩
  obtain ⟨s2, hs2⟩ : ∃ q, q = w.heap.size + 1 := ⟨_, rfl⟩
  have hD0 : Duo w V2 s1 s2 [] [] := by rw [hs1, hs2]; exact hS0
  rw [← hs1] at hnew
  rw [← hs2] at hnew2
  have HD0 := hide_it hD0
  clear hS0 hD0 hV1 hV2 hs1 hs2
  go_enter Try.func5, Try.ntmps5
  go_wp2_with fail
  refine hnew.mono ?_
  rintro e w1 ⟨rfl, hw1⟩
  obtain rfl := hw1.symm
  clear hnew hw1
  go_wp2_with fail
  refine hnew2.mono ?_
  rintro e w1 ⟨rfl, hw1⟩
  obtain rfl := hw1.symm
  clear hnew2 hw1
  go_wp2_with fail
  go_loopw [16, 8] (fun i _ wr => ∃ (k : Nat) (A : Cont), k ≤ n ∧ i = .int .i64 (k : Int) ∧ Hid (Duo w wr s1 s2 A (onlyA A key.data.toList)) ∧ Hid (FineK A k)) (fun i _ _ => n - (intOf i).toNat)
  case atStart => exact ⟨0, [], by omega, rfl, HD0, hide_it FineK.nil⟩
  case round =>
    clear HD0
    obtain ⟨k, C, hk, rfl, HD, HF⟩ := hrel
    have hk3 : k ≤ 4000000000000 := by omega
    by_cases hlt : k < n
    · have hki : (k : Int) < (n : Int) := by omega
      have hw1 : IntKind.i64.wrap ((k : Int) + 1) = (k : Int) + 1 := i64_in (by omega) (by omega)
      obtain ⟨b2, o2, rfl, l2, c0, c1, c2, c3, c4, c5⟩ := hrow.here hlt
      have d0 := (HD.out.bel.cell (p := ⟨b2, o2 + k * 6, none⟩) l2).trans c0
      have d1 := (HD.out.bel.cell (p := ⟨b2, o2 + k * 6 + 1, none⟩) l2).trans c1
      have d2 := (HD.out.bel.cell (p := ⟨b2, o2 + k * 6 + 2, none⟩) l2).trans c2
      have d3 := (HD.out.bel.cell (p := ⟨b2, o2 + k * 6 + 3, none⟩) l2).trans c3
      have d4 := (HD.out.bel.cell (p := ⟨b2, o2 + k * 6 + 4, none⟩) l2).trans c4
      have d5 := (HD.out.bel.cell (p := ⟨b2, o2 + k * 6 + 5, none⟩) l2).trans c5
      have hx := heach.out k hlt
      generalize A k = x at *
      obtain ⟨W, hW⟩ : ∃ W, W = wr.alloc (boxX x) := ⟨_, rfl⟩
      have hbW : Below wr.heap.size wr W := by rw [hW]; exact (Below.refl _ _).alloc (Nat.le_refl _) _
      have hzW : W.heap.size = wr.heap.size + 1 := by rw [hW]; simp
      have k0 : W.heap[wr.heap.size]? = some (.cells #[.int .i64 x.k, .string x.key, .int .i64 x.stamp, .slice x.val.a x.val.p.length x.val.c, .bool x.dead, .string x.to] 33 (0, 0)) := by rw [hW]; exact heap_alloc_new wr _
      have hX := HD.out.x hbW (by omega)
      have hfin := HF.out.fine hk3
      have hfin2 := only_fine hfin key.data.toList
      have HN := hide_it (next_fine HF.out HD.out.nodup x)
      have HX := hide_it hx
      unfold boxX at hW
      have s0 := cell_of_row _ _ 0 _ _ _ k0
      have s1' := cell_of_row _ _ 1 _ _ _ k0
      have s2' := cell_of_row _ _ 2 _ _ _ k0
      have s3 := cell_of_row _ _ 3 _ _ _ k0
      have s4 := cell_of_row _ _ 4 _ _ _ k0
      have s5 := cell_of_row _ _ 5 _ _ _ k0
      by_cases h4 : x.k = 4
      · have q4 : (x.k == 4) = true := by simpa using h4
        have hv1 := hX.vac hfin x.stamp
        have hF1 : FineK (vacA C x.stamp) (k + 1) := (vacA_fine HF.out _).mono (Nat.le_succ _)
        have HF1 := hide_it hF1
        have HC2 := hide_it hfin2
        clear c0 c1 c2 c3 c4 c5 hrow hx hbW heach hX hfin hfin2 HF HN HD HX hF1 h4
        go_wp2_with fail
        rw [← hW]
        clear hW d0 d1 d2 d3 d4 d5
        refine hv1.mono ?_
        rintro e z1 ⟨⟨g, rfl⟩, hX, hk1⟩
        have k1 := hk1.trans k0
        have r0 := cell_of_row _ _ 0 _ _ _ k1
        have r1 := cell_of_row _ _ 1 _ _ _ k1
        have r2 := cell_of_row _ _ 2 _ _ _ k1
        have r3 := cell_of_row _ _ 3 _ _ _ k1
        have r4 := cell_of_row _ _ 4 _ _ _ k1
        have r5 := cell_of_row _ _ 5 _ _ _ k1
        have hv2 := hX.swap.vac HC2.out x.stamp
        clear hX hk1 hv1 s0 s1' s2' s3 s4 s5 k0 k1
        go_wp2_with fail
        refine hv2.mono ?_
        rintro e z2 ⟨⟨g2, rfl⟩, hX, _⟩
        have hd := hX.swap.duo
        rw [← only_vac] at hd
        have HY := hide_it hd
        clear hv2 hX hd r0 r1 r2 r3 r4 r5
        go_wp2
        go_roundw
        case rel => exact ⟨k + 1, _, by omega, by go_num, HY, HF1⟩
        case measure => simp [intOf]; omega
      · have q4 : (x.k == 4) = false := by simpa using h4
        by_cases hkk : x.key = key
        · subst hkk
          by_cases h02 : x.k = 0 ∨ x.k = 1 ∨ x.k = 2
          · have g0 : 0 ≤ x.k := by omega
            have g2 : x.k ≤ 2 := by omega
            have hcl := (hX.below ((Below.refl _ _).drew)).both hfin hfin2 x hx (by omega)
            have htd := td_only C x h02
            have hnx := next_only C x h02
            have htf := td_fine hfin x h02
            rw [htd, hnx] at hcl
            have hal := fun z v1 v2 (a1 : TdIs z v1 (tdA C x)) (a2 : TdIs z v2 (tdA C x)) => alike_same a1 a2 htf
            unfold stepV at hcl
            have hl0 : wr.heap.size < W.heap.size := by omega
            clear c0 c1 c2 c3 c4 c5 hrow hx hbW heach hX hfin hfin2 HF HD HX htd hnx htf h02 h4
            go_wp2_with fail
            rw [← hW]
            clear hW d0 d1 d2 d3 d4 d5
            refine wp_region_held_drew (S := (fun w' => w'.heap[wr.heap.size]? = W.heap[wr.heap.size]?)) (by kernel_rfl) ?_ (fun hHeld => ?_)
            · rfl
            refine take_on (i := 0) (v := ?_) rfl rfl (by kernel_rfl) (by kernel_rfl) (by kernel_rfl) (fun _ _ _ h => h) rfl ?_ hHeld ?_
            rotate_left
            · (intro wq hSq; have xk := hSq.trans k0; have s0 := cell_of_row _ _ 0 _ _ _ xk; have t1 := cell_of_row _ _ 1 _ _ _ xk; have t2 := cell_of_row _ _ 2 _ _ _ xk; have s3 := cell_of_row _ _ 3 _ _ _ xk; have s4 := cell_of_row _ _ 4 _ _ _ xk; have s5 := cell_of_row _ _ 5 _ _ _ xk; go_simp <;> first | with_reducible rfl | rfl)
            simp only [Act.put, List.setIfInBounds_toArray, List.set_cons_zero, List.set_cons_succ]
            refine take_on (i := 1) (v := ?_) rfl rfl (by kernel_rfl) (by kernel_rfl) (by kernel_rfl) (fun _ _ _ h => h) rfl ?_ hHeld ?_
            rotate_left
            · (intro wq hSq; have xk := hSq.trans k0; have s0 := cell_of_row _ _ 0 _ _ _ xk; have t1 := cell_of_row _ _ 1 _ _ _ xk; have t2 := cell_of_row _ _ 2 _ _ _ xk; have s3 := cell_of_row _ _ 3 _ _ _ xk; have s4 := cell_of_row _ _ 4 _ _ _ xk; have s5 := cell_of_row _ _ 5 _ _ _ xk; go_simp <;> first | with_reducible rfl | rfl)
            simp only [Act.put, List.setIfInBounds_toArray, List.set_cons_zero, List.set_cons_succ]
            refine take_on (i := 3) (v := ?_) rfl rfl (by kernel_rfl) (by kernel_rfl) (by kernel_rfl) (fun _ _ _ h => h) rfl ?_ hHeld ?_
            rotate_left
            · (intro wq hSq; have xk := hSq.trans k0; have s0 := cell_of_row _ _ 0 _ _ _ xk; have t1 := cell_of_row _ _ 1 _ _ _ xk; have t2 := cell_of_row _ _ 2 _ _ _ xk; have s3 := cell_of_row _ _ 3 _ _ _ xk; have s4 := cell_of_row _ _ 4 _ _ _ xk; have s5 := cell_of_row _ _ 5 _ _ _ xk; go_simp <;> first | with_reducible rfl | rfl)
            simp only [Act.put, List.setIfInBounds_toArray, List.set_cons_zero, List.set_cons_succ]
            refine take_on (i := 4) (v := ?_) rfl rfl (by kernel_rfl) (by kernel_rfl) (by kernel_rfl) (fun _ _ _ h => h) rfl ?_ hHeld ?_
            rotate_left
            · (intro wq hSq; have xk := hSq.trans k0; have s0 := cell_of_row _ _ 0 _ _ _ xk; have t1 := cell_of_row _ _ 1 _ _ _ xk; have t2 := cell_of_row _ _ 2 _ _ _ xk; have s3 := cell_of_row _ _ 3 _ _ _ xk; have s4 := cell_of_row _ _ 4 _ _ _ xk; have s5 := cell_of_row _ _ 5 _ _ _ xk; go_simp <;> first | with_reducible rfl | rfl)
            simp only [Act.put, List.setIfInBounds_toArray, List.set_cons_zero, List.set_cons_succ]
            refine take_one (i := 2) rfl (by kernel_rfl) (fun K hK => ?_)
            go_simp
            (refine hcl.mono ?_; rintro e z1 ⟨v1, rfl, hy1, hcl2⟩; clear hcl)
            try go_wp2_with fail
            refine hK.out _ _ ?_ (fun hHeld => ?_)
            · exact hy1
            clear hK K
            try simp only [Act.put, List.setIfInBounds_toArray, List.set_cons_zero, List.set_cons_succ]
            refine take_one (i := 5) rfl (by kernel_rfl) (fun K hK => ?_)
            go_simp
            (refine hcl2.mono ?_; rintro e z2 ⟨v2, rfl, hv1, hv2, hX2, hy2⟩; replace hal := hal z2 v1 v2 hv1 hv2; clear hv1 hv2 hcl2)
            try go_wp2_with fail
            refine hK.out _ _ ?_ (fun hHeld => ?_)
            · exact hy2
            clear hK K
            try simp only [Act.put, List.setIfInBounds_toArray, List.set_cons_zero, List.set_cons_succ]
            refine take_one (i := 6) rfl (by kernel_rfl) (fun K hK => ?_)
            go_simp
            (refine hal.mono ?_; rintro e z3 ⟨rfl, hz3⟩; have hX3 := hX2.below hz3; clear hal)
            try go_wp2_with fail
            refine hK.out _ _ ?_ (fun hHeld => ?_)
            · exact (hz3.block _ hX2.lt).trans hy2
            clear hK K
            try simp only [Act.put, List.setIfInBounds_toArray, List.set_cons_zero, List.set_cons_succ]
            refine take_on (i := 7) (v := ?_) rfl rfl (by kernel_rfl) (by kernel_rfl) (by kernel_rfl) (fun _ _ _ h => h) rfl ?_ hHeld ?_
            rotate_left
            · (intro wq hSq; have xk := hSq.trans k0; have s0 := cell_of_row _ _ 0 _ _ _ xk; have t1 := cell_of_row _ _ 1 _ _ _ xk; have t2 := cell_of_row _ _ 2 _ _ _ xk; have s3 := cell_of_row _ _ 3 _ _ _ xk; have s4 := cell_of_row _ _ 4 _ _ _ xk; have s5 := cell_of_row _ _ 5 _ _ _ xk; go_simp <;> first | with_reducible rfl | rfl)
            simp only [Act.put, List.setIfInBounds_toArray, List.set_cons_zero, List.set_cons_succ]
            refine wpAnyH_done (by kernel_rfl) ?_ _
            have HY := hide_it hX3.duo
            clear hX2 hX3 hz3 hy1 hy2
            go_wp2
            go_roundw
            case rel => exact ⟨k + 1, _, by omega, by go_num, HY, HN⟩
            case measure => simp [intOf]; omega
          · rcases (show x.k < 0 ∨ (0 ≤ x.k ∧ 2 < x.k) by omega) with h9 | ⟨h9, h8⟩
            · have g0 : ¬ 0 ≤ x.k := by omega
              have q0 : (x.k == 0) = false := by simp; omega
              have HY := hide_it hX.duo
              have HF2 := hide_it (HF.out.mono (Nat.le_succ k))
              rw [hW] at HY
              clear c0 c1 c2 c3 c4 c5 hrow hx hbW heach hX hfin hfin2 HF HD HX HN h4 k0 hW s0 s1' s2' s3 s4 s5 hzW h02 h9
              go_wp2
              go_roundw
              case rel => exact ⟨k + 1, _, by omega, by go_num, HY, HF2⟩
              case measure => simp [intOf]; omega
            · have g2 : ¬ x.k ≤ 2 := by omega
              have q0 : (x.k == 0) = false := by simp; omega
              have HY := hide_it hX.duo
              have HF2 := hide_it (HF.out.mono (Nat.le_succ k))
              rw [hW] at HY
              clear c0 c1 c2 c3 c4 c5 hrow hx hbW heach hX hfin hfin2 HF HD HX HN h4 k0 hW s0 s1' s2' s3 s4 s5 hzW h02 h8
              go_wp2
              go_roundw
              case rel => exact ⟨k + 1, _, by omega, by go_num, HY, HF2⟩
              case measure => simp [intOf]; omega
        · have kt : ¬ x.key.toList = key.toList := fun e => hkk (by rw [Lib.toList_data, Lib.toList_data] at e; exact same_ba e)
          by_cases h0 : x.k = 0
          · have q0 : (x.k == 0) = true := by simpa using h0
            have hap := hX.app hfin x hx
            unfold verV vnOf at hap
            have hF1 : FineK (applyA C (vnOf x)) (k + 1) := applyA_fine HF.out HD.out.nodup _
            have HF1 := hide_it hF1
            have hon : onlyA (applyA C (vnOf x)) key.data.toList = onlyA C key.data.toList := only_other C (vnOf x) fun e => hkk (same_ba e)
            have HON := hide_it hon
            clear c0 c1 c2 c3 c4 c5 hrow hx hbW heach hX hfin hfin2 HF HD HX HN h4 h0 hF1 hon
            go_wp2_with fail
            rw [← hW]
            clear hW d0 d1 d2 d3 d4 d5 s0 s1' s2' s3 s4 s5
            refine hap.mono ?_
            rintro e z1 ⟨⟨g, rfl⟩, hX, _⟩
            have hd := hX.duo
            have HY : Hid (Duo w z1 s1 s2 (applyA C (vnOf x)) (onlyA (applyA C (vnOf x)) key.data.toList)) := by rw [HON.out]; exact hide_it hd
            clear hap hX hd
            go_wp2
            go_roundw
            case rel => exact ⟨k + 1, _, by omega, by go_num, HY, HF1⟩
            case measure => simp [intOf]; omega
          · have q0 : (x.k == 0) = false := by simpa using h0
            have HY := hide_it hX.duo
            have HF2 := hide_it (HF.out.mono (Nat.le_succ k))
            rw [hW] at HY
            clear c0 c1 c2 c3 c4 c5 hrow hx hbW heach hX hfin hfin2 HF HD HX HN h4 k0 hW s0 s1' s2' s3 s4 s5 hzW h0
            go_wp2
            go_roundw
            case rel => exact ⟨k + 1, _, by omega, by go_num, HY, HF2⟩
            case measure => simp [intOf]; omega
    · have hn1 : ¬ (k : Int) < (n : Int) := by omega
      have hfin := HF.out.fine hk3
      have hve := HD.out.vers hfin
      have HFI := hide_it hfin
      have HFO := hide_it (only_fine hfin key.data.toList)
      clear hrow heach hlt hfin HF
      go_wp2_with fail
      refine hve.mono ?_
      rintro e W2 ⟨av, N, cv, ys, rfl, hN, hrv, hsy, hb2⟩
      have hNl : N ≤ 4000000000000 := by rw [hN]; exact vers_len HFI.out hsy
      have HSY := hide_it hsy
      have HZ := hide_it (vers_z HFI.out hsy)
      have HRV : Hid (∀ z, Below W2.heap.size W2 z → RowV z (.slice av N cv) ys) := hide_it fun z hz => hrv.below hz
      have HN := hide_it hN
      have HD2 := hide_it (HD.out.below hb2)
      clear hve hN hrv hsy hb2 HFI HD
      go_wp2_with fail
      go_loopw [70, 9, 11] (fun i v _ z => ∃ (k : Nat) (zs : List Vn) (a5 : Option Addr) (L c5 : Nat), k ≤ N ∧ i = .int .i64 (k : Int) ∧ v = .slice a5 L c5 ∧ Hid (L = zs.length ∧ OwV z W2.heap.size (.slice a5 L c5) zs ∧ zs = ownV key (ys.take k)) ∧ Hid (Below W2.heap.size W2 z)) (fun i _ _ _ => N - (intOf i).toNat)
      case atStart => exact ⟨0, [], none, 0, 0, by omega, rfl, rfl, hide_it ⟨rfl, OwnS.nil _ _ _ _, rfl⟩, hide_it (Below.refl _ _)⟩
      case round =>
        obtain ⟨k, zs, a5, L, c5, hk, rfl, rfl, HO, HB⟩ := hrel
        by_cases hlt : k < N
        · have hki : (k : Int) < (N : Int) := by omega
          have hw1 : IntKind.i64.wrap ((k : Int) + 1) = (k : Int) + 1 := i64_in (by omega) (by omega)
          obtain ⟨g1, o1, k1, e1, hg1, hc1, p0, p1, p2, p3⟩ := (HRV.out _ HB.out).here (i := k) (by rw [← HN.out]; exact hlt)
          rw [← HN.out] at e1 hc1
          cases e1
          have hky : k < ys.length := by rw [← HN.out]; exact hlt
          have hbz := HB.out.size
          by_cases hkk : (vn ys k).k = key
          · have hyes := own_yes hky hkk
            obtain ⟨y, hy⟩ : ∃ y, y = vn ys k := ⟨_, rfl⟩
            rw [← hy] at p0 p1 p2 p3 hkk hyes
            subst hkk
            obtain ⟨z1, hz1⟩ : ∃ z1, z1 = wr.alloc (.cells #[.string y.k, .int .i64 y.n, .slice y.a y.z.length y.c, .bool y.d] 25) := ⟨_, rfl⟩
            have hb1 : Below wr.heap.size wr z1 := by rw [hz1]; exact (Below.refl _ _).alloc (Nat.le_refl _) _
            have hz1s : z1.heap.size = wr.heap.size + 1 := by rw [hz1]; simp
            have hzl : zs.length ≤ 4000000000000 := by
              rw [HO.out.2.2]
              exact Nat.le_trans (List.length_filter_le _ _) (by rw [List.length_take]; omega)
            have ho1 : OwV z1 W2.heap.size (.slice a5 L c5) zs := OwnS.below HO.out.2.1 hb1
            obtain ⟨a6, c6, w5, hrun, ho6, hb6⟩ := app_own y ho1 hzl (by omega)
            rw [← HO.out.1] at hrun ho6
            rw [hz1s, hz1] at hrun
            have HO6 : Hid (L + 1 = (zs ++ [y]).length ∧ OwV w5 W2.heap.size (.slice a6 (L + 1) c6) (zs ++ [y]) ∧ zs ++ [y] = ownV y.k (ys.take (k + 1))) := hide_it ⟨by rw [HO.out.1, List.length_append]; rfl, ho6, by rw [hyes, ← HO.out.2.2]⟩
            have HB6 : Hid (Below W2.heap.size W2 w5) := hide_it ((HB.out.trans (hb1.mono hbz)).trans hb6)
            clear HO HB hy hz1 hb1 hz1s hzl ho1 ho6 hb6 hyes hky hbz
            go_wp2_with (at_builtin; refine wpList_append_run rfl _ _ _ rfl _ _ _ _ rfl rfl hrun ?_)
            go_roundw
            case rel => exact ⟨k + 1, _, a6, L + 1, c6, by omega, by go_num, rfl, HO6, HB6⟩
            case measure => simp [intOf]; omega
          · have hno := own_no hky hkk
            obtain ⟨y, hy⟩ : ∃ y, y = vn ys k := ⟨_, rfl⟩
            rw [← hy] at p0 p1 p2 p3 hkk
            have kt : ¬ y.k.toList = key.toList := fun e => hkk (by rw [Lib.toList_data, Lib.toList_data] at e; exact same_ba e)
            have kt2 : (y.k.toList == key.toList) = false := by simpa using kt
            obtain ⟨z1, hz1⟩ : ∃ z1, z1 = wr.alloc (.cells #[.string y.k, .int .i64 y.n, .slice y.a y.z.length y.c, .bool y.d] 25) := ⟨_, rfl⟩
            have hb1 : Below wr.heap.size wr z1 := by rw [hz1]; exact (Below.refl _ _).alloc (Nat.le_refl _) _
            have HO6 : Hid (L = zs.length ∧ OwV z1 W2.heap.size (.slice a5 L c5) zs ∧ zs = ownV key (ys.take (k + 1))) := hide_it ⟨HO.out.1, OwnS.below HO.out.2.1 hb1, by rw [hno]; exact HO.out.2.2⟩
            have HB6 : Hid (Below W2.heap.size W2 z1) := hide_it (HB.out.trans (hb1.mono hbz))
            rw [hz1] at HO6 HB6
            clear HO HB hy hz1 hb1 hno hky hbz
            go_wp2
            go_roundw
            case rel => exact ⟨k + 1, zs, a5, L, c5, by omega, by go_num, rfl, HO6, HB6⟩
            case measure => simp [intOf]; omega
        · have hn1 : ¬ (k : Int) < (N : Int) := by omega
          have hkN : k = ys.length := by have := HN.out; omega
          have hzs : zs = ownV key ys := by rw [HO.out.2.2, hkN, List.take_length]
          have hsub : ∀ y ∈ zs, y ∈ ys := fun y hy => by rw [hzs] at hy; exact (List.mem_filter.1 hy).1
          have hrow : RowV wr (.slice a5 L c5) zs := ⟨OwnS.mono HO.out.2.1 (Nat.zero_le _), fun y hy => (HRV.out wr HB.out).val y (hsub y hy)⟩
          have hzl : zs.length ≤ 4000000000000 := by
            have h1 : zs.length ≤ ys.length := by rw [hzs]; exact List.length_filter_le _ _
            have := HN.out; omega
          have hzz : ∀ y ∈ zs, y.z.length ≤ 4096 := fun y hy => HZ.out y (hsub y hy)
          have hsa : saysV zs = versA (onlyA C key.data.toList) := by rw [hzs]; exact ownV_says key ys C HSY.out
          have hv2 := (HD2.out.below HB.out).swap.vers HFO.out
          have HRW := hide_it hrow
          have HZL := hide_it hzl
          have HZZ := hide_it hzz
          have HSA := hide_it hsa
          have HBW := hide_it ((HD2.out.bel).trans (HB.out.mono HD2.out.bel.size))
          clear hkN hzs hsub hrow hzl hzz hsa HO HB HRV HZ HSY HD2 HFO hlt
          go_wp2_with fail
          refine hv2.mono ?_
          rintro e z3 ⟨a9, n9, c9, y9, rfl, hn9, hr9, hs9, hb9⟩
          have hva := versionsAlike_same (HRW.out.below hb9) hr9 (HSA.out.trans hs9.symm) HZL.out HZZ.out
          have HB9 := hide_it (HBW.out.trans (hb9.mono HBW.out.size))
          clear hv2 hn9 hr9 hs9 hb9 HRW HSA HZL HZZ HBW
          go_wp2_with fail
          refine hva.mono ?_
          rintro e z4 ⟨rfl, hb4⟩
          have HB4 := hide_it (HB9.out.trans (hb4.mono HB9.out.size))
          have hfx := fixed_any z4
          clear hva hb4 HB9
          go_wp2_with fail
          refine hfx.mono ?_
          rintro e z5 ⟨rfl, hb5⟩
          have HB5 := hide_it (HB4.out.trans (hb5.mono HB4.out.size))
          clear hfx hb5 HB4
          go_wp2
          go_ret
          exact ⟨rfl, HB5.out⟩

end Go.Proofs.Ytcdlalmahjjbgab.storeApart
