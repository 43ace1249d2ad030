/- The law that a reading hangs on the bytes from the place on alone, walked. -/
import Derived.Test.YtfhinodieghklabOpenS
import Derived.Test.YtfhinodieghklabTwo
namespace Go.Proofs.Ytfhinodieghklab.codecLater
open Go.RowKit

theorem rd_take {x : Nat} {t : List Nat} : rdOf 0 (takeFixed 1) (x :: t, 0) = (x, (t, 0)) := by
  unfold rdOf takeFixed
  simp [beVal]

set_option maxRecDepth 100000 in
set_option maxHeartbeats 1000000 in
theorem walk (a : Option Addr) (ca : Nat) (zs : List Nat) (b : Option Addr) (cb : Nat) (ys : List Nat) (c : Option Addr) (n cc : Nat) (A : Nat → Nat → Int) (w : World) (ha : Came8 w a ca zs) (hal : zs.length ≤ 1048576) (hb : Came8 w b cb ys) (hbl : ys.length ≤ 1048576) (hc : CameS w c n A) :
    Calls Try.prog 6 #[.slice a zs.length ca, .slice b ys.length cb, .slice c n cc] w fun e w' => e = .returned (.bool true) ∧ Below w.heap.size w w' := by
  have hn := hc.size
  have hb0 : Below w.heap.size w (w.alloc (.cells #[] 5)) := (Below.refl _ _).alloc (Nat.le_refl _) _
  have hr0 := ha.row.below hb0
  have hna := ha.none
  have hnb := hb.none
  go_enter Try.func6, Try.ntmps6
  go_wp2_with (first | (at_builtin; refine wpList_append_row _ rfl _ _ rfl w.heap.size _ [] rfl (own_empty w) a ca zs rfl hr0 hna (by simp; omega) hb0.size ?_; intro v1 w1 hown1 hg1 hat1; have hb1 : Below w.heap.size w w1 := hb0.grown hg1 hb0.size (fun j e => by cases e; exact Nat.le_refl _); have hr1 := hb.row.below hb1) | (at_builtin; refine wpList_append_row _ rfl _ _ rfl w.heap.size _ _ rfl hown1 b cb ys rfl hr1 hnb (by simp; omega) hb1.size ?_; intro v2 w2 hown2 hg2 hat2))
  have hb2 : Below w.heap.size w w2 := hb1.grown hg2 hb1.size (fun j e => hown1.ge e)
  obtain ⟨a2, c2, hv2, hr2, _, _, hn2⟩ := hown2.row
  rw [List.nil_append] at hv2 hr2 hn2
  subst hv2
  have h8z : All8 (zs ++ ys) := fun z hz => by
    rcases List.mem_append.1 hz with h | h
    · exact ha.all z h
    · exact hb.all z h
  have hop := open_any a2 c2 (zs ++ ys) w2 hr2 h8z (by simp; omega) hn2
  have h8y := hb.all
  have hrb := hb.row
  obtain ⟨L, hL⟩ : ∃ L, L = zs ++ ys := ⟨_, rfl⟩
  rw [← hL] at hop
  have HL := hide_it hL
  clear hown1 hg1 hat1 hr1 hown2 hg2 hat2 hr2 hn2 h8z hb0 hr0 hb1 hna hL
  rw [← HL.out]
  refine hop.mono ?_
  rintro e w3 ⟨p, rfl, hp, hs3, hb3⟩
  have hbw3 := hb2.trans (hb3.mono hb2.size)
  have hpw : w.heap.size ≤ p := Nat.le_trans hb2.size hp
  have hoq := open_any b cb ys w3 (hrb.below hbw3) h8y (by omega) hnb
  have HB2 := hide_it hb2
  clear hop hb2 hb3
  go_wp2_with fail
  refine hoq.mono ?_
  rintro e w4 ⟨q, rfl, hq, hs4, hb4⟩
  have hbw4 := hbw3.trans (hb4.mono hbw3.size)
  have hqw : w.heap.size ≤ q := Nat.le_trans hbw3.size hq
  have hplt : p < w3.heap.size := by
    rcases hs3 with ⟨e, _⟩ | ⟨p', e, hP, _⟩
    · cases e
    · cases e; exact hP.1
  have hne : q ≠ p := by omega
  have hs3' := hs3.below hb4
  clear hoq hs3 hb4 hbw3 hp hq hplt
  have HRS : Hid (CameS w c n A) := hc
  clear hc ha hb hrb HB2 hnb
  go_wp2_with fail
  go_loopw [25] (fun i wr => ∃ k : Nat, k ≤ zs.length ∧ i = .int .i64 (k : Int) ∧ Rst wr (some ⟨p, 0, none⟩) (L.drop k, 0) ∧ Rst wr (some ⟨q, 0, none⟩) (ys, 0) ∧ Below w.heap.size w wr) (fun i _ => zs.length - (intOf i).toNat)
  case atStart => exact ⟨0, by omega, rfl, hs3', hs4, hbw4⟩
  case round =>
    obtain ⟨k, hk, rfl, hp, hq, hbr⟩ := hrel
    clear hs3' hs4 hbw4
    by_cases hlt : k < zs.length
    · have hLl : k < L.length := by rw [HL.out, List.length_append]; omega
      have hdr : L.drop k = at0 L k :: L.drop (k + 1) := by rw [List.drop_eq_getElem_cons hLl, at0_get hLl]
      have hx := take8 _ _ _ hp
      rw [hdr, rd_take] at hx
      have hd : decide ((k : Int) < (zs.length : Int)) = true := by simp; omega
      have HP := hide_it hp
      clear hp hdr
      go_wp2_with fail
      refine hx.mono ?_
      rintro e w6 ⟨rfl, hp6, hg6⟩
      have HQ6 := hide_it (keep hq HP.out hne hg6)
      have HP6 := hide_it hp6
      have hb6 := hbr.grown hg6 hbr.size (fun j e => by cases e; exact hpw)
      clear hx hp6 hg6 hq
      go_wp2_with fail
      go_roundw
      case rel => exact ⟨k + 1, by omega, by go_num, HP6.out, HQ6.out, hb6⟩
      case measure => simp [intOf]; omega
    · have hkz : k = zs.length := by omega
      have hdr : L.drop k = ys := by rw [HL.out, hkz]; simp
      rw [hdr] at hp
      have hd : decide ((k : Int) < (zs.length : Int)) = false := by simp; omega
      have HP := hide_it hp
      have HQ := hide_it hq
      clear hp hq hdr HL hkz
      go_wp2_with fail
      go_loopw [32] (fun i wr => ∃ (k : Nat) (st : List Nat × Nat), k ≤ n ∧ i = .int .i64 (k : Int) ∧ st.1.length ≤ 1048576 ∧ Rst wr (some ⟨p, 0, none⟩) st ∧ Rst wr (some ⟨q, 0, none⟩) st ∧ Below w.heap.size w wr) (fun i _ => n - (intOf i).toNat)
      case atStart => exact ⟨0, (ys, 0), by omega, rfl, hbl, HP.out, HQ.out, hbr⟩
      case round =>
        obtain ⟨j, st, hj, rfl, hst, hp, hq, hb7⟩ := hrel
        by_cases hlt2 : j < n
        · obtain ⟨b9, o9, rfl, hbw9, hcc⟩ := (HRS.out.row.below hb7).here hlt2
          have e0 := hcc j hlt2 0 (by omega)
          have e1 := hcc j hlt2 1 (by omega)
          have e2 := hcc j hlt2 2 (by omega)
          have e3 := hcc j hlt2 3 (by omega)
          rw [Nat.add_zero] at e0
          have b1 := HRS.out.all j 1
          have b2 := HRS.out.all j 2
          have b3 := HRS.out.all j 3
          have hi1 : (j : Int) < (n : Int) := by omega
          clear hcc
          generalize A j 0 = x0 at *
          generalize A j 1 = x1 at *
          generalize A j 2 = x2 at *
          generalize A j 3 = x3 at *
          have hbx := box_below wr x0 x1 x2 x3
          have hpl := hp.lt
          have hst1 := step_any (some ⟨p, 0, none⟩) x0 x1 x2 x3 st (boxW wr x0 x1 x2 x3) (hp.below hbx) (by omega) b1.1 b1.2 b2.1 b2.2 b3.1 b3.2
          have hlen := step_len x0 x1 x2 x3 st
          have hans := step_ans x0 x1 x2 x3 st
          obtain ⟨R, hR⟩ : ∃ R, R = stepOf x0 x1 x2 x3 st := ⟨_, rfl⟩
          rw [← hR] at hst1 hlen hans
          have HRR := hide_it hR
          have HP2 := hide_it (hp.below hbx)
          have HQ2 := hide_it (hq.below hbx)
          have HB8 := hide_it (hb7.trans (hbx.mono hb7.size))
          clear hp hq hR hb7 hbx
          go_wp2_with fail
          refine hst1.mono ?_
          rintro e w8 ⟨⟨a8, c8, rfl, hr8, _⟩, hp8, hg8⟩
          have hb8 : Below w.heap.size w w8 := HB8.out.grown hg8 HB8.out.size (fun i e => by cases e; exact hpw)
          have hq8 := keep HQ2.out HP2.out hne hg8
          have f0 : w8.cell? ⟨wr.heap.size, 0, none⟩ = some (.int .i64 x0) := cell_kept (p := p) (by rw [cell_of_row _ _ _ _ _ _ (heap_alloc_new wr _)]; rfl) (by simp [boxW]) (Nat.ne_of_gt hpl) hg8
          have f1 : w8.cell? ⟨wr.heap.size, 1, none⟩ = some (.int .i64 x1) := cell_kept (p := p) (by rw [cell_of_row _ _ _ _ _ _ (heap_alloc_new wr _)]; rfl) (by simp [boxW]) (Nat.ne_of_gt hpl) hg8
          have f2 : w8.cell? ⟨wr.heap.size, 2, none⟩ = some (.int .i64 x2) := cell_kept (p := p) (by rw [cell_of_row _ _ _ _ _ _ (heap_alloc_new wr _)]; rfl) (by simp [boxW]) (Nat.ne_of_gt hpl) hg8
          have f3 : w8.cell? ⟨wr.heap.size, 3, none⟩ = some (.int .i64 x3) := cell_kept (p := p) (by rw [cell_of_row _ _ _ _ _ _ (heap_alloc_new wr _)]; rfl) (by simp [boxW]) (Nat.ne_of_gt hpl) hg8
          have hst2 := step_any (some ⟨q, 0, none⟩) x0 x1 x2 x3 st w8 hq8 (by omega) b1.1 b1.2 b2.1 b2.2 b3.1 b3.2
          rw [← HRR.out] at hst2
          have HP8 := hide_it hp8
          have HQ8 := hide_it hq8
          clear hst1 HP2 HQ2 hg8 hp8 hq8 e0 e1 e2 e3 HB8
          go_wp2_with fail
          refine hst2.mono ?_
          rintro e w9 ⟨⟨a9, c9, rfl, hr9, _⟩, hq9, hg9⟩
          have hb9 := hb8.grown hg9 hb8.size (fun i e => by cases e; exact hqw)
          have HP9 := hide_it (keep HP8.out HQ8.out (fun e => hne e.symm) hg9)
          have HQ9 := hide_it hq9
          have hr8' := keepRow hr8 HQ8.out hg9
          have hml : R.1.2.length ≤ maxLen := by unfold maxLen; omega
          have heq := equal_any a8 a9 c8 c9 R.1.2 R.1.2 w9 hr8' hr9 hml hml
          have hdd : decide (R.1.2 = R.1.2) = true := decide_eq_true rfl
          rw [hdd] at heq
          clear hst2 hg9 hr8 hr8' hr9 hq9 hdd HP8 HQ8 hb8 HRR f0 f1 f2 f3 hml
          obtain ⟨⟨N, P⟩, S⟩ := R
          go_wp2_with fail
          refine heq.mono ?_
          rintro e w10 ⟨rfl, q10, rfl⟩
          have hbd := below_drewN (Below.refl w9.heap.size w9) q10
          have HPa := hide_it (HP9.out.below hbd)
          have HQa := hide_it (HQ9.out.below hbd)
          have hba := below_drewN hb9 q10
          clear heq hbd HP9 HQ9 hb9
          go_wp2_with fail
          go_roundw
          case rel => exact ⟨j + 1, S, by omega, by go_num, Nat.le_trans hlen hst, HPa.out, HQa.out, hba⟩
          case measure => simp [intOf]; omega
        · have hd2 : decide ((j : Int) < (n : Int)) = false := by simp; omega
          have hl1 := left_st _ _ _ hp
          have hl2 := left_st _ _ _ hq
          have hf1 := fault_st _ _ _ hp
          have hf2 := fault_st _ _ _ hq
          clear hp hq HRS
          go_wp2_with fail
          refine hl1.mono ?_
          rintro e w' ⟨rfl, hq⟩
          have hq2 := hq.symm
          subst hq2
          clear hq hl1
          go_wp2_with fail
          refine hl2.mono ?_
          rintro e w' ⟨rfl, hq⟩
          have hq2 := hq.symm
          subst hq2
          clear hq hl2
          go_wp2_with fail
          refine hf1.mono ?_
          rintro e w' ⟨rfl, hq⟩
          have hq2 := hq.symm
          subst hq2
          clear hq hf1
          go_wp2_with fail
          refine hf2.mono ?_
          rintro e w' ⟨rfl, hq⟩
          have hq2 := hq.symm
          subst hq2
          clear hq hf2
          go_wp2_with fail
          refine (fixed_all _).mono ?_
          rintro e w11 ⟨rfl, hb11⟩
          go_wp2_with fail
          go_ret
          exact ⟨rfl, hb7.trans (hb11.mono hb7.size)⟩
end Go.Proofs.Ytfhinodieghklab.codecLater
