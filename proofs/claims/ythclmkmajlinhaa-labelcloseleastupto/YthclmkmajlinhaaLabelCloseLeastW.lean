/- That LabelCloseLeast answers true. -/
import Derived.Test.YthclmkmajlinhaaCL1
import Derived.Test.YthclmkmajlinhaaAwake2
import Derived.Test.YthclmkmajlinhaaOpen
namespace Go.Proofs.Ythclmkmajlinhaa.labelCloseLeast
open Go.RowKit

theorem owns_set {w : World} {base e g n c : Nat} {xs : List Value} (h : w.ownsRow base e 1 (.slice (some ⟨g, 0, none⟩) n c) n xs) (i : Nat) (u : Value) : (w.setCell ⟨g, i, none⟩ u).ownsRow base e 1 (.slice (some ⟨g, 0, none⟩) n c) n (xs.set i u) := by
  refine ⟨by rw [List.length_set]; exact h.1, ?_⟩
  rcases h.2 with ⟨h2, _⟩ | ⟨g', cap', cur, e', h3, hh, h4, h5, h6, h7⟩
  · cases h2
  · cases e'
    refine .inr ⟨g, c, _, rfl, h3, heap_setCell_same w g i _ _ _ hh, h4, h5, by simpa using h6, ?_⟩
    rw [Array.toList_setIfInBounds, List.take_set, h7]
theorem owns_at {w : World} {base e n c : Nat} {a : Option Addr} {xs : List Value} (h : w.ownsRow base e 1 (.slice a n c) n xs) (h0 : 0 < n) : ∃ g cur, a = some ⟨g, 0, none⟩ ∧ base ≤ g ∧ w.heap[g]? = some (.cells cur e (0, 0)) ∧ n ≤ cur.size := by
  rcases h.2 with ⟨_, h2⟩ | ⟨g', cap', cur, e', h3, hh, h4, h5, h6, h7⟩
  · omega
  · cases e'
    exact ⟨g', cur, rfl, h3, hh, by simp at h6; omega⟩

/-- The list twice, its first k the other way round. -/
def tw (zs T : List Nat) (k : Nat) : List Nat := (List.range k).map (fun i => at0 zs (zs.length - 1 - i)) ++ T.drop k
theorem tw_len {zs T : List Nat} {k : Nat} (h : k ≤ T.length) : (tw zs T k).length = T.length := by simp [tw]; omega
theorem tw_step {zs T : List Nat} {k : Nat} (h : k < T.length) : (tw zs T k).set k (at0 zs (zs.length - 1 - k)) = tw zs T (k + 1) := by
  unfold tw
  rw [List.set_append_right _ _ (by simp)]
  simp only [List.length_map, List.length_range, Nat.sub_self]
  rw [List.drop_eq_getElem_cons h, List.set_cons_zero, List.range_succ, List.map_append, List.append_assoc]
  rfl
theorem tw_mem {zs T : List Nat} (hT : T = zs ++ zs) (x : Nat) : x ∈ tw zs T zs.length ↔ x ∈ zs := by
  unfold tw
  rw [hT, List.drop_left, List.mem_append]
  constructor
  · rintro (h | h)
    · obtain ⟨i, hi, rfl⟩ := List.mem_map.1 h
      have := List.mem_range.1 hi
      exact at0_mem (by omega)
    · exact h
  · exact .inr

/-- Whether the first k labels are in the other list. -/
def allIn (zs os : List Nat) (k : Nat) : Bool := (List.range k).all fun i => decide (at0 zs i ∈ os)
theorem allIn_succ (zs os : List Nat) (k : Nat) : allIn zs os (k + 1) = (allIn zs os k && decide (at0 zs k ∈ os)) := by simp [allIn, List.range_succ]
theorem allIn_all {zs os : List Nat} (h : allIn zs os zs.length = true) : ∀ x ∈ zs, x ∈ os := fun x hx => by
  obtain ⟨i, hi, rfl⟩ := mem_at0 hx
  have := List.all_eq_true.1 h i (List.mem_range.2 hi)
  simpa using this

set_option maxRecDepth 100000 in
set_option maxHeartbeats 8000000 in
theorem walk (N : Nat) (hN : SortsL N) (h16 : 16 ≤ N) (a : Option Addr) (ca : Nat) (zs : List Nat) (b : Option Addr) (cb : Nat) (os : List Nat) (w : World) (hz : Came1 w a ca zs) (lz : zs.length ≤ 1048576) (ho : Came1 w b cb os) (lo : os.length ≤ 1048576) :
    Calls Try.prog 6 #[.slice a zs.length ca, .slice b os.length cb] w fun e w' => e = .returned (.bool true) ∧ Below w.heap.size w w' := by
  have mz : zs.length ≤ maxLen := by unfold maxLen; omega
  have mo : os.length ≤ maxLen := by unfold maxLen; omega
  have hzr := hz.row
  have hor := ho.row
  have hz64 := hz.all
  have ho64 := ho.all
  have hzn := hz.none
  have hof := ho.fits
  clear hz ho
  go_enter Try.func6, Try.ntmps6
  go_wp2_with fail
  refine (awake_any _).mono ?_
  rintro e w1 ⟨rfl, hb1⟩
  go_wp2_with fail
  refine (close_res N hN h16 a ca zs w1 (hzr.below hb1) hz64 mz).mono ?_
  rintro e w2 ⟨⟨ga, gc, G, n, rfl, hres, hgr, hgc⟩, hb2⟩
  have hbw2 := hb1.trans (hb2.mono hb1.size)
  have hzr2 := hzr.below hbw2
  have HR := hidden hres
  have hG64 := hres.all64 hz64
  have hGl := hres.len
  clear hb1 hb2 hres
  obtain ⟨T, hT⟩ : ∃ T, T = zs ++ zs := ⟨_, rfl⟩
  have HT := hidden hT
  have hTl : T.length = zs.length + zs.length := by rw [hT]; simp
  have HTL := hidden hTl
  have hT0 : T.length ≤ 2097152 := by omega
  have hT1 : zs.length ≤ T.length := by omega
  clear hT hTl
  go_wp2_with (first | (at_builtin; refine wpList_append_rowLb _ rfl _ _ rfl w2.heap.size _ [] rfl (World.ownsRow_nil _ _ _ _) a ca zs rfl hzr2 hzn (by simp; omega) (Nat.le_refl _) ?_; intro v3 w3 ho3 hg3; rw [List.nil_append] at ho3; have hb3 : Below w2.heap.size w2 w3 := ((Below.refl _ _).grown hg3 (Nat.le_refl _) (fun j e => (by cases e))); have hzr3 := hzr2.below hb3) | (at_builtin; refine wpList_append_rowLb _ rfl _ _ rfl w2.heap.size _ zs rfl ho3 a ca zs rfl hzr3 hzn (by omega) hb3.size ?_; intro v4 w4 ho4 hg4; rw [← HT.out] at ho4; have hb4 : Below w2.heap.size w2 w4 := (hb3.grown hg4 hb3.size (fun j e => own_ge ho3 e)); obtain ⟨ta, tc, hv4, _, _⟩ := row_of_owns ho4; subst hv4))
  clear ho3 hg3 hb3 hzr3 hg4
  go_loopw [8] (fun i wr => ∃ k : Nat, k ≤ zs.length ∧ i = .int .i64 k ∧ OwnLb wr w2.heap.size (.slice ta T.length tc) (tw zs T k) ∧ Below w2.heap.size w2 wr) (fun i _ => zs.length - (intOf i).toNat)
  case atStart => exact ⟨0, by omega, rfl, by simpa [tw] using ho4, hb4⟩
  case round =>
    obtain ⟨k, hk, rfl, how, hbl⟩ := hrel
    clear ho4 hb4
    by_cases hlt : k < zs.length
    · have hi1 : (k : Int) < (zs.length : Int) := by omega
      have hi2 : (zs.length : Int) - 1 - (k : Int) = ((zs.length - 1 - k : Nat) : Int) := by omega
      obtain ⟨q, hq⟩ : ∃ q, q = zs.length - 1 - k := ⟨_, rfl⟩
      have hql : q < zs.length := by omega
      rw [← hq] at hi2
      obtain ⟨bb, oo, rfl, hbb, hcz⟩ := (hzr2.below hbl).here hql
      have hcq := hcz q hql
      have hlen : (tw zs T k).length = T.length := tw_len (by omega)
      unfold OwnLb at how
      rw [hlen] at how
      obtain ⟨g, cur, hta, hg, hh, hcs⟩ := owns_at how (by omega)
      cases hta
      have hset := owns_set how k (.int .u64 ((at0 zs q : Nat) : Int))
      have hmap : ((tw zs T k).map encU).set k (.int .u64 ((at0 zs q : Nat) : Int)) = (tw zs T (k + 1)).map encU := by
        rw [← tw_step (by omega), ← hq, List.map_set]; rfl
      rw [hmap] at hset
      have hlen2 : (tw zs T (k + 1)).length = T.length := tw_len (by omega)
      have hfz := frozen_of_row wr g k _ _ hh
      obtain ⟨u, hu⟩ : ∃ u, cur[k]? = some u := ⟨_, Array.getElem?_eq_getElem (by omega)⟩
      have hcu := (cell_of_row wr g k _ _ _ hh).trans hu
      have hbl2 : Below w2.heap.size w2 (wr.setCell ⟨g, k, none⟩ (.int .u64 ((at0 zs q : Nat) : Int))) := hbl.setCell hg _
      have hkT : (k : Int) < (T.length : Int) := by omega
      have hqi : (q : Int) < (zs.length : Int) := by omega
      have HL2 := hidden hlen2
      clear hcz hlen how hh hmap hlen2 hq hu
      go_wp2_with fail
      go_roundw
      case rel => exact ⟨k + 1, by omega, by go_num, by unfold OwnLb; rw [HL2.out]; exact hset, hbl2⟩
      case measure => simp [intOf]; omega
    · have hkn : k = zs.length := by omega
      subst hkn
      have hlen : (tw zs T zs.length).length = T.length := tw_len (by omega)
      obtain ⟨ta', tc', hv, hrowT, _⟩ := row_of_owns how
      rw [hlen] at hv
      cases hv
      obtain ⟨U, hU⟩ : ∃ U, U = tw zs T zs.length := ⟨_, rfl⟩
      have hmem : ∀ x, x ∈ zs ↔ x ∈ U := fun x => by rw [hU]; exact (tw_mem HT.out x).symm
      rw [← hU] at hlen hrowT
      have hU64 : All64 U := fun z hz => hz64 z ((hmem z).2 hz)
      have hcr := close_res N hN h16 ta tc U wr hrowT hU64 (by rw [hlen]; unfold maxLen; omega)
      rw [hlen] at hcr
      have HM := hidden hmem
      clear hU how hmem hlen hrowT
      go_wp2_with fail
      refine hcr.mono ?_
      rintro e w5 ⟨⟨ga5, gc5, G5, n5, rfl, hres5, hgr5, _⟩, hb5⟩
      obtain ⟨hGG, hnn⟩ := Res.unique HM.out HR.out hres5
      subst hGG
      subst hnn
      have hbl5 := hbl.trans (hb5.mono hbl.size)
      have hgr5' := hgr.below hbl5
      have hpl := plain_any ga gc G w5 hgr5' (by omega)
      have hd1 : ((n : Int) != (n : Int)) = false := by simp
      clear hcr hres5 hbl hb5
      go_wp2_with fail
      refine hpl.mono ?_
      rintro e w6 ⟨⟨g6, rfl, hr6⟩, hb6⟩
      have hs := sameLabels_any ga5 (some ⟨g6, 0, none⟩) gc5 G.length G G w6 (hgr5.below hb6) hr6 (by unfold maxLen; omega)
      rw [decide_eq_true rfl] at hs
      have hbl6 := hbl5.trans (hb6.mono hbl5.size)
      clear hpl hbl5 hb6 hr6 hgr5 hgr5'
      go_wp2_with fail
      refine hs.mono ?_
      rintro e w7 ⟨rfl, hb7⟩
      have hbl7 := hbl6.trans (hb7.mono hbl6.size)
      have hbw7 := hbw2.trans (hbl7.mono hbw2.size)
      have hck := check_any b cb os w7 (hor.below hbw7) ho64 mo hof
      clear hs hbl6 hb7
      go_wp2_with fail
      refine hck.mono ?_
      rintro e w8 ⟨rfl, hb8⟩
      have hbl8 := hbl7.trans (hb8.mono hbl7.size)
      have hbw8 := hbw2.trans (hbl8.mono hbw2.size)
      obtain ⟨cko, hcko⟩ : ∃ c, c = decide (checkOf os = 0) := ⟨_, rfl⟩
      have hcke : (((checkOf os : Nat) : Int) == 0) = cko := by rw [hcko]; by_cases h : checkOf os = 0 <;> simp [h]
      have hcke2 : decide (((checkOf os : Nat) : Int) = 0) = cko := by rw [hcko]; by_cases h : checkOf os = 0 <;> simp [h]
      have HCK := hidden hcko
      clear hck hbl7 hb8 hbw7 hcko
      go_wp2_with fail
      have hzr8 := hzr.below hbw8
      have hor8 := hor.below hbw8
      have hgr8 := hgr.below hbl8
      go_loop [11, 12] (fun x i => ∃ k : Nat, k ≤ zs.length ∧ i = .int .i64 k ∧ x = .bool (cko && allIn zs os k)) (fun _ i => zs.length - (intOf i).toNat)
      case atStart => exact ⟨0, by omega, rfl, by simp [allIn]⟩
      case round =>
        obtain ⟨k, hk2, rfl, rfl⟩ := hrel
        by_cases hlt2 : k < zs.length
        · have hi1 : (k : Int) < (zs.length : Int) := by omega
          obtain ⟨bb, oo, rfl, hbb, hcz⟩ := hzr8.here hlt2
          have hcq := hcz k hlt2
          have hst := allIn_succ zs os k
          obtain ⟨z, hz⟩ : ∃ z, z = at0 zs k := ⟨_, rfl⟩
          rw [← hz] at hcq hst
          have hpc := place_any b cb os z w8 hor8 mo
          have HST := hidden hst
          clear hcz hz hst
          by_cases hm : z ∈ os
          · rw [decide_eq_true hm] at hpc
            have HST2 : Hid (allIn zs os (k + 1) = allIn zs os k) := by show _ = _; rw [HST.out, decide_eq_true hm, Bool.and_true]
            obtain ⟨y, hy⟩ : ∃ y, y = (cko && allIn zs os k) := ⟨_, rfl⟩
            have HY := hidden hy
            rw [← hy]
            clear hm hy
            go_wp2_with fail
            refine hpc.mono ?_
            rintro e w9 ⟨⟨m9, rfl⟩, rfl⟩
            go_wp2_with fail
            go_round
            case rel => exact ⟨k + 1, by omega, by go_num, by rw [HST2.out, ← HY.out]⟩
            case measure => simp [intOf]; omega
          · rw [decide_eq_false hm] at hpc
            have HST2 : Hid ((cko && allIn zs os (k + 1)) = false) := by show _ = _; rw [HST.out, decide_eq_false hm, Bool.and_false, Bool.and_false]
            clear hm
            go_wp2_with fail
            refine hpc.mono ?_
            rintro e w9 ⟨⟨m9, rfl⟩, rfl⟩
            go_wp2_with fail
            go_round
            case rel => exact ⟨k + 1, by omega, by go_num, by rw [HST2.out]⟩
            case measure => simp [intOf]; omega
        · have hkn : k = zs.length := by omega
          subst hkn
          obtain ⟨Wb, hWb⟩ : ∃ y, y = (cko && allIn zs os zs.length) := ⟨_, rfl⟩
          rw [← hWb]
          have hwhole : Wb = true → checkOf os = 0 ∧ ∀ x ∈ zs, x ∈ os := fun h => by
            rw [hWb, HCK.out, Bool.and_eq_true] at h
            exact ⟨by simpa using h.1, allIn_all h.2⟩
          have HWH := hidden hwhole
          clear hWb hwhole
          rcases HR.out with ⟨rfl, rfl, hno⟩ | ⟨rfl, hne, hcl⟩
          · cases Wb with
            | true =>
              obtain ⟨hc0, hin⟩ := HWH.out rfl
              have hzs : zs = [] := by
                rcases hno with e | e
                · exact e
                · exact absurd e (whole_few hc0 hin)
              have hd0 : ((zs.length : Int) == 0) = true := by rw [hzs]; rfl
              clear hno hin hzs hc0
              go_wp2_with fail
              go_ret
              exact ⟨rfl, hbw8⟩
            | false =>
              clear hno
              go_wp2_with fail
              go_ret
              exact ⟨rfl, hbw8⟩
          · have HCL := hidden hcl
            have HNE := hidden hne
            have hcr := close_res N hN h16 ga gc G w8 hgr8 hG64 (by unfold maxLen; omega)
            clear hcl hne
            go_wp2_with fail
            refine hcr.mono ?_
            rintro e w9 ⟨⟨ga9, gc9, G9, n9, rfl, hres9, hgr9, _⟩, hb9⟩
            obtain ⟨hGG, hnn⟩ := Res.unique (fun x => Iff.rfl) (show Res G G 0 from .inr ⟨rfl, HCL.out.ne HNE.out, HCL.out.self⟩) hres9
            subst hGG
            subst hnn
            have hbl9 := hbl8.trans (hb9.mono hbl8.size)
            have hck9 := check_any ga gc G w9 (hgr.below hbl9) hG64 (by unfold maxLen; omega) hgc
            rw [HCL.out.check HNE.out] at hck9
            clear hcr hres9 hb9 hbl8 hgr8
            go_wp2_with fail
            refine hck9.mono ?_
            rintro e w10 ⟨rfl, hb10⟩
            have hbl10 := hbl9.trans (hb10.mono hbl9.size)
            have hgr10 := hgr9.below hb10
            have hpl := plain_any ga gc G w10 (hgr.below hbl10) (by omega)
            clear hck9 hbl9 hb10 hgr9
            go_wp2_with fail
            refine hpl.mono ?_
            rintro e w11 ⟨⟨g11, rfl, hr11⟩, hb11⟩
            have hs := sameLabels_any ga9 (some ⟨g11, 0, none⟩) gc9 G.length G G w11 (hgr10.below hb11) hr11 (by unfold maxLen; omega)
            rw [decide_eq_true rfl] at hs
            have hbl11 := hbl10.trans (hb11.mono hbl10.size)
            clear hpl hbl10 hb11 hr11 hgr10
            go_wp2_with fail
            refine hs.mono ?_
            rintro e w12 ⟨rfl, hb12⟩
            have hbl12 := hbl11.trans (hb12.mono hbl11.size)
            have hbw12 := hbw2.trans (hbl12.mono hbw2.size)
            have hzr12 := hzr.below hbw12
            have hor12 := hor.below hbw12
            have hgr12 := hgr.below hbl12
            clear hs hbl11 hb12 hzr8 hor8 hbw8
            go_wp2_with fail
            go_loop [17] (fun i => ∃ k : Nat, k ≤ zs.length ∧ i = .int .i64 k) (fun i => zs.length - (intOf i).toNat)
            case atStart => exact ⟨0, by omega, rfl⟩
            case round =>
              obtain ⟨k, hk3, rfl⟩ := hrel
              by_cases hlt3 : k < zs.length
              · have hi1 : (k : Int) < (zs.length : Int) := by omega
                obtain ⟨bb, oo, rfl, hbb, hcz⟩ := hzr12.here hlt3
                have hcq := hcz k hlt3
                have hzG : at0 zs k ∈ G := (HCL.out.mem _).2 (.base (at0_mem hlt3))
                obtain ⟨z, hz⟩ : ∃ z, z = at0 zs k := ⟨_, rfl⟩
                rw [← hz] at hcq hzG
                have hpc := place_any ga gc G z w12 hgr12 (by unfold maxLen; omega)
                rw [decide_eq_true hzG] at hpc
                clear hcz hz hzG
                go_wp2_with fail
                refine hpc.mono ?_
                rintro e w9 ⟨⟨m9, rfl⟩, rfl⟩
                go_wp2_with fail
                go_round
                case rel => exact ⟨k + 1, by omega, by go_num⟩
                case measure => simp [intOf]; omega
              · go_wp2_with fail
                go_loop [20] (fun i => ∃ k : Nat, k ≤ G.length ∧ i = .int .i64 k) (fun i => G.length - (intOf i).toNat)
                case atStart => exact ⟨0, by omega, rfl⟩
                case round =>
                  obtain ⟨m, hm4, rfl⟩ := hrel
                  by_cases hlt4 : m < G.length
                  · have hi1 : (m : Int) < (G.length : Int) := by omega
                    obtain ⟨bb, oo, rfl, hbb, hcz⟩ := hgr12.here hlt4
                    have hcq := hcz m hlt4
                    have hzG : InCl zs (at0 G m) := (HCL.out.mem _).1 (at0_mem hlt4)
                    obtain ⟨z, hz⟩ : ∃ z, z = at0 G m := ⟨_, rfl⟩
                    rw [← hz] at hcq hzG
                    have hpc := place_any b cb os z w12 hor12 mo
                    cases Wb with
                    | true =>
                      obtain ⟨hc0, hin⟩ := HWH.out rfl
                      rw [decide_eq_true (whole_has hc0 hin hzG)] at hpc
                      clear hcz hz hzG hc0 hin
                      go_wp2_with fail
                      refine hpc.mono ?_
                      rintro e w9 ⟨⟨m9, rfl⟩, rfl⟩
                      go_wp2_with fail
                      go_round
                      case rel => exact ⟨m + 1, by omega, by go_num⟩
                      case measure => simp [intOf]; omega
                    | false =>
                      clear hcz hz hzG
                      go_wp2_with fail
                      refine hpc.mono ?_
                      rintro e w9 ⟨⟨m9, rfl⟩, rfl⟩
                      go_wp2_with fail
                      go_round
                      case rel => exact ⟨m + 1, by omega, by go_num⟩
                      case measure => simp [intOf]; omega
                  · go_wp2_with fail
                    go_ret
                    exact ⟨rfl, hbw12⟩
end Go.Proofs.Ythclmkmajlinhaa.labelCloseLeast
