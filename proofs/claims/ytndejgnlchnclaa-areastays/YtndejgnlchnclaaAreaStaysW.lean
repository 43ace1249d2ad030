/- The law on what stays, walked. -/
import Derived.Test.YtndejgnlchnclaaSt9
namespace Go.Proofs.Ytndejgnlchnclaa.areaStays
open Go.RowKit

theorem take_more {bs0 bs zs : List Nat} {L : Nat} (h : bs.take L = bs0) (hl : L ≤ bs.length) : (bs ++ zs).take L = bs0 := by rw [List.take_append_of_le_length hl]; exact h
theorem take_crash {bs0 bs : List Nat} {L k c t : Nat} (h : bs.take L = bs0) (hL : L ≤ k) (hk : k + c ≤ bs.length) : (crashB bs k c t).take L = bs0 := by
  unfold crashB tear
  split
  · rw [List.take_set, List.set_eq_of_length_le (by simp; omega), List.take_take, Nat.min_eq_left (by omega)]; exact h
  · rw [List.take_take, Nat.min_eq_left (by omega)]; exact h

set_option maxRecDepth 100000 in
set_option maxHeartbeats 6400000 in
theorem walk (a : Option Addr) (n c : Nat) (A : Nat → Stp) (a' : Option Addr) (n' c' : Nat) (A' : Nat → Stp) (w : World) (hs : CameStp w a n A) (hs' : CameStp w a' n' A') :
    Calls Try.prog 7 #[.slice a n c, .slice a' n' c'] w fun e w' => e = .returned (.bool true) ∧ Below w.heap.size w w' := by
  have hn' := hs'.size
  obtain ⟨W0, hW0⟩ : ∃ W0, W0 = w.alloc (.cells #[.slice a n c, .slice a' n' c'] 23) := ⟨_, rfl⟩
  have hb0 : Below w.heap.size w W0 := by rw [hW0]; exact (Below.refl _ _).alloc (Nat.le_refl _) _
  have hq0 : W0.heap[w.heap.size]? = some (.cells #[.slice a n c, .slice a' n' c'] 23 (0, 0)) := by rw [hW0]; exact heap_alloc_new w _
  have hva := vast_any w.heap.size 2 2 (fun i => if i = 0 then ⟨a, n, c, A⟩ else ⟨a', n', c', A'⟩) W0 (by omega) (Array.getElem?_eq_some_iff.1 hq0).1 (fun i hi => by
    have : i = 0 ∨ i = 1 := by omega
    rcases this with rfl | rfl
    · exact cell_of_row _ _ _ _ _ _ hq0
    · exact cell_of_row _ _ _ _ _ _ hq0) (fun i hi => by
    by_cases h0 : i = 0
    · simp only [h0, if_true]; exact hs.below hb0
    · simp only [h0, if_false]; exact hs'.below hb0)
  have httl : ttl (fun i => if i = 0 then ⟨a, n, c, A⟩ else ⟨a', n', c', A'⟩) 2 = tot A n + tot A' n' := by simp [ttl]
  rw [httl] at hva
  go_enter Try.func7, Try.ntmps7
  go_wp2_with fail
  rw [← hW0]
  clear hW0 hq0 httl
  refine hva.mono ?_
  rintro e w1 ⟨⟨b, rfl, hT⟩, hb1⟩
  have hbw1 := hb0.trans (hb1.mono hb0.size)
  clear hva
  cases b with
  | true =>
    clear hT hs hs'
    go_wp2_with fail
    go_ret
    exact ⟨rfl, hbw1⟩
  | false =>
    replace hT := hide_it (hT rfl)
    have hpl := played_any a n c A w1 (hs.below hbw1) (by have := hT.out; omega)
    have hI := runA_inv A n
    obtain ⟨x, hx⟩ : ∃ x, x = runA A n := ⟨_, rfl⟩
    rw [← hx] at hpl hI
    obtain ⟨B, bs0, k0⟩ := x
    obtain ⟨hI1, hI2, hI3⟩ := hI
    simp only at hI1 hI2 hI3
    clear hx hs
    go_wp2_with fail
    refine hpl.mono ?_
    rintro e w2 ⟨⟨p, rfl, hF2⟩, hb2⟩
    have hbw2 := hbw1.trans (hb2.mono hbw1.size)
    clear hpl
    have haw := awake_any w2
    go_wp2_with fail
    refine haw.mono ?_
    rintro e w3 ⟨rfl, hb3⟩
    have hF3 := hF2.below hb3
    have hbw3 := hbw2.trans (hb3.mono hbw2.size)
    have hsy := hF3.sync
    clear haw
    go_wp2_with fail
    refine hsy.mono ?_
    rintro e w4 ⟨rfl, hF4, hc4⟩
    have hbw4 : Below w.heap.size w w4 := hbw3.trans (hc4.below (fun j hj => by have := hj.1; have := hbw1.size; omega) hbw3.size)
    have hwh := whole_any hF4
    clear hsy
    go_wp2_with fail
    refine hwh.mono ?_
    rintro e w5 ⟨⟨r, rfl, hr⟩, hb5⟩
    have hS5 := Sl.new hr hF4.lt
    have hF5 := hF4.below hb5
    have hbw5 := hbw4.trans (hb5.mono hbw4.size)
    obtain ⟨ra, rc, hrr, _⟩ := hS5.row
    subst hrr
    obtain ⟨F5, hF5e⟩ : ∃ F, F = upto (fun j => w1.heap.size ≤ j ∧ j < w2.heap.size) w3 w4 := ⟨_, rfl⟩
    have hlo5 : ∀ j, F5 j → w.heap.size ≤ j := fun j hj => by
      rw [hF5e] at hj
      have := hbw1.size
      have := hbw3.size
      rcases hj with hj | hj
      · have := hj.1; omega
      · have := hj.1; omega
    rw [← hF5e] at hS5 hF5
    obtain ⟨L, hLe⟩ : ∃ L, L = bs0.length := ⟨_, rfl⟩
    have hLn := hide_it hLe.symm
    have hroom := hF5.room
    have hwB : IntKind.i64.wrap ((B : Int) + (L : Int)) = ((B + L : Nat) : Int) := by rw [IntKind.wrap_i64]; omega
    obtain ⟨G0, hG0⟩ : ∃ G, G = B + L := ⟨_, rfl⟩
    rw [← hG0] at hwB
    replace hG0 := hide_it hG0
    have hL1 : L ≤ tot A n := by omega
    have hB62 : Hid (B + L ≤ 4611686018427387904 + tot A n) := by unfold Hid; omega
    rw [← hLe] at hS5 hF5
    rw [← hLe]
    have hS5' := hide_it hS5
    have hF5' := hide_it hF5
    replace hbw5 := hide_it hbw5
    clear hwh hr hF5e hroom hS5 hF5 hF4 hF3 hF2 hc4 hbw1 hbw2 hbw3 hbw4 hb0 hb1 hb2 hb3 hb5 hLe hI1 hI2 hI3
    go_wp2_with fail
    go_loopw [9] (fun i wr => ∃ (m : Nat) (F : Nat → Prop) (bs' : List Nat) (k' : Nat), m ≤ n' ∧ i = .int .i64 (m : Int) ∧ bs'.take L = bs0 ∧ L ≤ k' ∧ bs'.length ≤ tot A n + tot A' m ∧ Hid (Fa wr F p B bs' k' ∧ ∀ j, F j → w.heap.size ≤ j) ∧ Hid (Sl wr F (.slice ra L rc) bs0) ∧ Hid (Below w.heap.size w wr)) (fun i _ => n' - (intOf i).toNat)
    case atStart => exact ⟨0, F5, bs0, L, by omega, rfl, by rw [← hLn.out]; simp, Nat.le_refl _, by rw [hLn.out]; simp [tot]; exact hL1, hide_it ⟨hF5'.out, hlo5⟩, hS5', hbw5⟩
    case round =>
      obtain ⟨m, F, bs', k', hm, rfl, hpre, hLk, hle, hFh, hSh, hbh⟩ := hrel
      clear hS5' hF5' hlo5 hbw5
      have hml : m ≤ 2932031007317 := by omega
      by_cases hlt : m < n'
      · have hmi : (m : Int) < (n' : Int) := by omega
        obtain ⟨bk, o, rfl, hbb, d1, d2, d3, d4⟩ := hs'.row.here hlt
        have hok := hs'.each m hlt
        have hTm : tot A n + (tot A' m + (1 + (A' m).d.p.length)) ≤ 1073741824 := Nat.le_trans (Nat.add_le_add_left (tot_mono A' (show m + 1 ≤ n' from hlt)) _) hT.out
        have HT := hide_it (show tot A' (m + 1) = tot A' m + (1 + (A' m).d.p.length) from rfl)
        have c1 := (hbh.out.cell (p := ⟨bk, o + m * 4, none⟩) hbb).trans d1
        have c2 := (hbh.out.cell (p := ⟨bk, o + m * 4 + 1, none⟩) hbb).trans d2
        have c3 := (hbh.out.cell (p := ⟨bk, o + m * 4 + 2, none⟩) hbb).trans d3
        have c4 := (hbh.out.cell (p := ⟨bk, o + m * 4 + 3, none⟩) hbb).trans d4
        obtain ⟨s, hsm⟩ : ∃ s, s = A' m := ⟨_, rfl⟩
        rw [← hsm] at hok hTm HT c1 c2 c3 c4
        obtain ⟨K, xa, xb, ⟨da, dc, zs⟩⟩ := s
        obtain ⟨_, _, _, hdk⟩ := hok
        obtain ⟨hdr, hd8, _, hdn⟩ := hdk
        simp only at hTm HT c1 c2 c3 c4 hdr hd8 hdn
        have hrow := hdr.below hbh.out
        have hB2 := hB62.out
        clear hsm d1 d2 d3 d4 hs' hdr
        by_cases k1 : K = 1
        · subst k1
          obtain ⟨x1, x2, y0, hrun, hr0, hn0, hbc⟩ := copy_run (w := wr) 28 da dc zs hrow hdn (by omega)
          have hFy := hFh.out.1.below hbc
          have hap := hFy.append x1 x2 zs hr0 hd8 hn0 (by omega) (by have := hFy.le; omega)
          have hSy := hide_it (hSh.out.below hbc)
          replace hFy := hide_it hFy
          clear hrow hr0
          go_wp2_with (at_builtin; refine wpList_append_run rfl _ _ _ rfl _ _ _ _ rfl rfl hrun ?_)
          refine hap.mono ?_
          rintro e wx ⟨rfl, hF, hcx⟩
          have hS := hSy.out.chg hcx
          have hlo : ∀ j, upto F y0 wx j → w.heap.size ≤ j := fun j hj => by
            rcases hj with hj | hj
            · exact hFh.out.2 j hj
            · have := hbh.out.size; have := hbc.size; have := hj.1; omega
          have hbw := hide_it ((hbh.out.trans (hbc.mono hbh.out.size)).trans (hcx.below hFh.out.2 (Nat.le_trans hbh.out.size hbc.size)))
          have hpre := take_more (zs := zs) hpre (by have := hFh.out.1.le; omega)
          have hLk' := hLk
          have hle' : (bs' ++ zs).length ≤ tot A n + (tot A' m + (1 + zs.length)) := by rw [List.length_append]; omega
          obtain ⟨bs2, hbs2⟩ : ∃ b, b = bs' ++ zs := ⟨_, rfl⟩
          rw [← hbs2] at hF hpre hle'
          clear hbs2 hap hrun hcx hFy hSy hFh hSh hbh c1 c2 c3 c4 hbc
          have hrd := hF.read 0 L (by have := hF.le; omega) (B : Int) (by simp)
          rw [show (bs2.take (0 + L)).drop 0 = bs0 by rw [Nat.zero_add, List.drop_zero]; exact hpre] at hrd
          have hbk := hide_it (show B + L ≤ B + k' ∧ B + k' ≤ B + bs2.length ∧ B + bs2.length ≤ 9223372036854775807 from ⟨by omega, by have := hF.le; omega, hF.room.2.1⟩)
          replace hpre := hide_it hpre
          replace hle' := hide_it hle'
          go_wp2_with fail
          refine hrd.mono ?_
          rintro e y1 ⟨⟨r1, rfl, ho1⟩, hb1⟩
          obtain ⟨b1, b2, rfl, hr1, _, _, hn1⟩ := ho1.row
          have hF1 := hF.below hb1
          have hbo := hF1.bounds
          obtain ⟨G1, hG1⟩ : ∃ G, G = B + k' := ⟨_, rfl⟩
          obtain ⟨G2, hG2⟩ : ∃ G, G = B + bs2.length := ⟨_, rfl⟩
          rw [← hG1, ← hG2] at hbo
          replace hG1 := hide_it hG1
          replace hG2 := hide_it hG2
          rw [hLn.out]
          have hS1 := hide_it (hS.below hb1)
          replace hF1 := hide_it hF1
          have hr1' := hide_it hr1
          clear hrd hF hS hr1 ho1
          go_wp2_with fail
          refine hbo.mono ?_
          rintro e y2 ⟨rfl, hb2⟩
          have hF2 := hide_it (hF1.out.below hb2)
          have hS2 := hS1.out.below hb2
          obtain ⟨q1, q2, q3, q4, _, q6⟩ := hS2.row
          rw [hLn.out] at q3
          cases q3
          have hsm := same_any b1 ra b2 rc bs0 L hLn.out y2 (hr1'.out.below hb2) q4 hn1 q6
          have hbx := hide_it (hbw.out.trans ((hb1.trans (hb2.mono hb1.size)).mono hbw.out.size))
          replace hS2 := hide_it hS2
          clear hbo hF1 hn1 q4 q6
          have hd0 : ¬ G1 < G0 := by have := hG0.out; have := hG1.out; have := hbk.out; omega
          have hd1 : ¬ G2 < G1 := by have := hG1.out; have := hG2.out; have := hbk.out; omega
          go_wp2_with fail
          refine hsm.mono ?_
          rintro e y3 ⟨rfl, hq3⟩
          obtain rfl := hq3
          clear hsm
          go_wp2_with fail
          go_roundw
          case rel => exact ⟨m + 1, _, bs2, k', by omega, by go_num, hpre.out, hLk', by rw [HT.out]; exact hle'.out, hide_it ⟨hF2.out, hlo⟩, hS2, hbx⟩
          case measure => simp [intOf]; omega
        by_cases k2 : K = 2
        · subst k2
          have hap := hFh.out.1.sync
          go_wp2_with fail
          refine hap.mono ?_
          rintro e wx ⟨rfl, hF, hcx⟩
          have hS := hSh.out.chg hcx
          have hlo : ∀ j, upto F wr wx j → w.heap.size ≤ j := fun j hj => by
            rcases hj with hj | hj
            · exact hFh.out.2 j hj
            · have := hbh.out.size; have := hj.1; omega
          have hbw := hide_it (hbh.out.trans (hcx.below hFh.out.2 hbh.out.size))
          have hLk' : L ≤ bs'.length := by have := hFh.out.1.le; omega
          have hle' : bs'.length ≤ tot A n + (tot A' m + (1 + zs.length)) := by omega
          obtain ⟨kk, hkk2⟩ : ∃ b, b = bs'.length := ⟨_, rfl⟩
          rw [← hkk2] at hF hLk'
          clear hap hcx hFh hSh hbh c1 c2 c3 c4 k1 hkk2
          have hrd := hF.read 0 L (by have := hF.le; omega) (B : Int) (by simp)
          rw [show (bs'.take (0 + L)).drop 0 = bs0 by rw [Nat.zero_add, List.drop_zero]; exact hpre] at hrd
          have hbk := hide_it (show B + L ≤ B + kk ∧ B + kk ≤ B + bs'.length ∧ B + bs'.length ≤ 9223372036854775807 from ⟨by omega, by have := hF.le; omega, hF.room.2.1⟩)
          replace hpre := hide_it hpre
          replace hle' := hide_it hle'
          go_wp2_with fail
          refine hrd.mono ?_
          rintro e y1 ⟨⟨r1, rfl, ho1⟩, hb1⟩
          obtain ⟨b1, b2, rfl, hr1, _, _, hn1⟩ := ho1.row
          have hF1 := hF.below hb1
          have hbo := hF1.bounds
          obtain ⟨G1, hG1⟩ : ∃ G, G = B + kk := ⟨_, rfl⟩
          obtain ⟨G2, hG2⟩ : ∃ G, G = B + bs'.length := ⟨_, rfl⟩
          rw [← hG1, ← hG2] at hbo
          replace hG1 := hide_it hG1
          replace hG2 := hide_it hG2
          rw [hLn.out]
          have hS1 := hide_it (hS.below hb1)
          replace hF1 := hide_it hF1
          have hr1' := hide_it hr1
          clear hrd hF hS hr1 ho1
          go_wp2_with fail
          refine hbo.mono ?_
          rintro e y2 ⟨rfl, hb2⟩
          have hF2 := hide_it (hF1.out.below hb2)
          have hS2 := hS1.out.below hb2
          obtain ⟨q1, q2, q3, q4, _, q6⟩ := hS2.row
          rw [hLn.out] at q3
          cases q3
          have hsm := same_any b1 ra b2 rc bs0 L hLn.out y2 (hr1'.out.below hb2) q4 hn1 q6
          have hbx := hide_it (hbw.out.trans ((hb1.trans (hb2.mono hb1.size)).mono hbw.out.size))
          replace hS2 := hide_it hS2
          clear hbo hF1 hn1 q4 q6
          have hd0 : ¬ G1 < G0 := by have := hG0.out; have := hG1.out; have := hbk.out; omega
          have hd1 : ¬ G2 < G1 := by have := hG1.out; have := hG2.out; have := hbk.out; omega
          go_wp2_with fail
          refine hsm.mono ?_
          rintro e y3 ⟨rfl, hq3⟩
          obtain rfl := hq3
          clear hsm
          go_wp2_with fail
          go_roundw
          case rel => exact ⟨m + 1, _, bs', kk, by omega, by go_num, hpre.out, hLk', by rw [HT.out]; exact hle'.out, hide_it ⟨hF2.out, hlo⟩, hS2, hbx⟩
          case measure => simp [intOf]; omega
        by_cases k7 : K = 7
        · subst k7
          obtain ⟨t, ht⟩ : ∃ t : Nat, (t : Int) = xb % 256 := ⟨(xb % 256).toNat, by omega⟩
          have ht8 : t < 256 := by omega
          have hwt : IntKind.u8.wrap xb = (t : Int) := by rw [IntKind.wrap_u8', ht]
          obtain ⟨cc, hcc⟩ : ∃ cc, cc = min xa.toNat (bs'.length - k') := ⟨_, rfl⟩
          have hap := (hFh.out.1.below (Below.refl _ _).drew).crash xa t ht8 cc hcc
          replace ht := hide_it ht
          replace hcc := hide_it hcc
          have hbbw : bk < wr.heap.size := Nat.lt_of_lt_of_le hbb hbh.out.size
          go_wp2_with fail
          refine wp_region_held_drew (S := (fun w' => w'.heap[bk]? = wr.heap[bk]?)) (by kernel_rfl) ?_ (fun hHeld => ?_)
          · rfl
          refine take_on (i := 0) (v := ?_) rfl rfl (by kernel_rfl) (by kernel_rfl) (by kernel_rfl) (fun _ _ _ h => h) rfl ?_ hHeld ?_
          rotate_left
          · (intro wq hSq; have q1 := (World.cell?_of_block (w := wr) (a := ⟨bk, o + m * 4 + 1, none⟩) hSq).trans c2; have q2 := (World.cell?_of_block (w := wr) (a := ⟨bk, o + m * 4 + 2, none⟩) hSq).trans c3; go_simp <;> first | with_reducible rfl | rfl)
          simp only [Act.put, List.setIfInBounds_toArray, List.set_cons_zero, List.set_cons_succ]
          refine take_on (i := 1) (v := ?_) rfl rfl (by kernel_rfl) (by kernel_rfl) (by kernel_rfl) (fun _ _ _ h => h) rfl ?_ hHeld ?_
          rotate_left
          · (intro wq hSq; have q1 := (World.cell?_of_block (w := wr) (a := ⟨bk, o + m * 4 + 1, none⟩) hSq).trans c2; have q2 := (World.cell?_of_block (w := wr) (a := ⟨bk, o + m * 4 + 2, none⟩) hSq).trans c3; go_simp <;> first | with_reducible rfl | rfl)
          simp only [Act.put, List.setIfInBounds_toArray, List.set_cons_zero, List.set_cons_succ]
          refine take_on (i := 2) (v := ?_) rfl rfl (by kernel_rfl) (by kernel_rfl) (by kernel_rfl) (fun _ _ _ h => h) rfl ?_ hHeld ?_
          rotate_left
          · (intro wq hSq; have q1 := (World.cell?_of_block (w := wr) (a := ⟨bk, o + m * 4 + 1, none⟩) hSq).trans c2; have q2 := (World.cell?_of_block (w := wr) (a := ⟨bk, o + m * 4 + 2, none⟩) hSq).trans c3; go_simp <;> first | with_reducible rfl | rfl)
          simp only [Act.put, List.setIfInBounds_toArray, List.set_cons_zero, List.set_cons_succ]
          refine take_on (i := 3) (v := ?_) rfl rfl (by kernel_rfl) (by kernel_rfl) (by kernel_rfl) (fun _ _ _ h => h) rfl ?_ hHeld ?_
          rotate_left
          · (intro wq hSq; have q1 := (World.cell?_of_block (w := wr) (a := ⟨bk, o + m * 4 + 1, none⟩) hSq).trans c2; have q2 := (World.cell?_of_block (w := wr) (a := ⟨bk, o + m * 4 + 2, none⟩) hSq).trans c3; go_simp <;> first | with_reducible rfl | rfl)
          simp only [Act.put, List.setIfInBounds_toArray, List.set_cons_zero, List.set_cons_succ]
          refine take_on (i := 4) (v := ?_) rfl rfl (by kernel_rfl) (by kernel_rfl) (by kernel_rfl) (fun _ _ _ h => h) rfl ?_ hHeld ?_
          rotate_left
          · (intro wq hSq; have q1 := (World.cell?_of_block (w := wr) (a := ⟨bk, o + m * 4 + 1, none⟩) hSq).trans c2; have q2 := (World.cell?_of_block (w := wr) (a := ⟨bk, o + m * 4 + 2, none⟩) hSq).trans c3; go_simp <;> first | with_reducible rfl | rfl)
          simp only [Act.put, List.setIfInBounds_toArray, List.set_cons_zero, List.set_cons_succ]
          refine take_on (i := 5) (v := ?_) rfl rfl (by kernel_rfl) (by kernel_rfl) (by kernel_rfl) (fun _ _ _ h => h) rfl ?_ hHeld ?_
          rotate_left
          · (intro wq hSq; have q1 := (World.cell?_of_block (w := wr) (a := ⟨bk, o + m * 4 + 1, none⟩) hSq).trans c2; have q2 := (World.cell?_of_block (w := wr) (a := ⟨bk, o + m * 4 + 2, none⟩) hSq).trans c3; go_simp <;> first | with_reducible rfl | rfl)
          simp only [Act.put, List.setIfInBounds_toArray, List.set_cons_zero, List.set_cons_succ]
          refine take_on (i := 6) (v := ?_) rfl rfl (by kernel_rfl) (by kernel_rfl) (by kernel_rfl) (fun _ _ _ h => h) rfl ?_ hHeld ?_
          rotate_left
          · (intro wq hSq; have q1 := (World.cell?_of_block (w := wr) (a := ⟨bk, o + m * 4 + 1, none⟩) hSq).trans c2; have q2 := (World.cell?_of_block (w := wr) (a := ⟨bk, o + m * 4 + 2, none⟩) hSq).trans c3; go_simp <;> first | with_reducible rfl | rfl)
          simp only [Act.put, List.setIfInBounds_toArray, List.set_cons_zero, List.set_cons_succ]
          refine take_on (i := 7) (v := ?_) rfl rfl (by kernel_rfl) (by kernel_rfl) (by kernel_rfl) (fun _ _ _ h => h) rfl ?_ hHeld ?_
          rotate_left
          · (intro wq hSq; have q1 := (World.cell?_of_block (w := wr) (a := ⟨bk, o + m * 4 + 1, none⟩) hSq).trans c2; have q2 := (World.cell?_of_block (w := wr) (a := ⟨bk, o + m * 4 + 2, none⟩) hSq).trans c3; go_simp <;> first | with_reducible rfl | rfl)
          simp only [Act.put, List.setIfInBounds_toArray, List.set_cons_zero, List.set_cons_succ]
          refine take_on (i := 8) (v := ?_) rfl rfl (by kernel_rfl) (by kernel_rfl) (by kernel_rfl) (fun _ _ _ h => h) rfl ?_ hHeld ?_
          rotate_left
          · (intro wq hSq; have q1 := (World.cell?_of_block (w := wr) (a := ⟨bk, o + m * 4 + 1, none⟩) hSq).trans c2; have q2 := (World.cell?_of_block (w := wr) (a := ⟨bk, o + m * 4 + 2, none⟩) hSq).trans c3; go_simp <;> first | with_reducible rfl | rfl)
          simp only [Act.put, List.setIfInBounds_toArray, List.set_cons_zero, List.set_cons_succ]
          refine take_on (i := 9) (v := ?_) rfl rfl (by kernel_rfl) (by kernel_rfl) (by kernel_rfl) (fun _ _ _ h => h) rfl ?_ hHeld ?_
          rotate_left
          · (intro wq hSq; have q1 := (World.cell?_of_block (w := wr) (a := ⟨bk, o + m * 4 + 1, none⟩) hSq).trans c2; have q2 := (World.cell?_of_block (w := wr) (a := ⟨bk, o + m * 4 + 2, none⟩) hSq).trans c3; go_simp <;> first | with_reducible rfl | rfl)
          simp only [Act.put, List.setIfInBounds_toArray, List.set_cons_zero, List.set_cons_succ]
          refine take_on (i := 10) (v := ?_) rfl rfl (by kernel_rfl) (by kernel_rfl) (by kernel_rfl) (fun _ _ _ h => h) rfl ?_ hHeld ?_
          rotate_left
          · (intro wq hSq; have q1 := (World.cell?_of_block (w := wr) (a := ⟨bk, o + m * 4 + 1, none⟩) hSq).trans c2; have q2 := (World.cell?_of_block (w := wr) (a := ⟨bk, o + m * 4 + 2, none⟩) hSq).trans c3; go_simp <;> first | with_reducible rfl | rfl)
          simp only [Act.put, List.setIfInBounds_toArray, List.set_cons_zero, List.set_cons_succ]
          refine take_on (i := 11) (v := ?_) rfl rfl (by kernel_rfl) (by kernel_rfl) (by kernel_rfl) (fun _ _ _ h => h) rfl ?_ hHeld ?_
          rotate_left
          · (intro wq hSq; have q1 := (World.cell?_of_block (w := wr) (a := ⟨bk, o + m * 4 + 1, none⟩) hSq).trans c2; have q2 := (World.cell?_of_block (w := wr) (a := ⟨bk, o + m * 4 + 2, none⟩) hSq).trans c3; go_simp <;> first | with_reducible rfl | rfl)
          simp only [Act.put, List.setIfInBounds_toArray, List.set_cons_zero, List.set_cons_succ]
          refine take_one (i := 12) rfl (by kernel_rfl) (fun K hK => ?_)
          go_simp
          refine hap.mono ?_; rintro e wx ⟨rfl, hF, hcx⟩
          try go_wp2_with fail
          refine hK.out _ _ ?_ (fun hHeld => ?_)
          · exact hcx.block bk hbbw (fun h4 => by have := hFh.out.2 bk h4; omega)
          clear hK K
          try simp only [Act.put, List.setIfInBounds_toArray, List.set_cons_zero, List.set_cons_succ]
          refine wpAnyH_done (by kernel_rfl) ?_ _
          have hS := (hSh.out.below (Below.refl _ _).drew).chg hcx
          have hlo : ∀ j, upto F wr.drew wx j → w.heap.size ≤ j := fun j hj => by
            rcases hj with hj | hj
            · exact hFh.out.2 j hj
            · have := hbh.out.size; have h9 : wr.heap.size ≤ j := hj.1; omega
          have hbw := hide_it ((hbh.out.drew).trans (hcx.below hFh.out.2 hbh.out.size))
          have hkk : k' + cc ≤ bs'.length := by have := hFh.out.1.le; have := hcc.out; omega
          have hpre := take_crash (t := t) hpre hLk hkk
          have hLk' : L ≤ k' + cc := by omega
          have hle' : (crashB bs' k' cc t).length ≤ tot A n + (tot A' m + (1 + zs.length)) := by rw [crashB_len _ _ _ _ hkk]; omega
          obtain ⟨bs2, hbs2⟩ : ∃ b, b = crashB bs' k' cc t := ⟨_, rfl⟩
          obtain ⟨kk, hkk2⟩ : ∃ b, b = k' + cc := ⟨_, rfl⟩
          rw [← hbs2] at hF hpre hle'
          rw [← hkk2] at hF hLk'
          clear hbs2 hkk2 hkk hap hcx hFh hSh hbh c1 c2 c3 c4 k1 k2 hHeld
          have hrd := hF.read 0 L (by have := hF.le; omega) (B : Int) (by simp)
          rw [show (bs2.take (0 + L)).drop 0 = bs0 by rw [Nat.zero_add, List.drop_zero]; exact hpre] at hrd
          have hbk := hide_it (show B + L ≤ B + kk ∧ B + kk ≤ B + bs2.length ∧ B + bs2.length ≤ 9223372036854775807 from ⟨by omega, by have := hF.le; omega, hF.room.2.1⟩)
          replace hpre := hide_it hpre
          replace hle' := hide_it hle'
          go_wp2_with fail
          refine hrd.mono ?_
          rintro e y1 ⟨⟨r1, rfl, ho1⟩, hb1⟩
          obtain ⟨b1, b2, rfl, hr1, _, _, hn1⟩ := ho1.row
          have hF1 := hF.below hb1
          have hbo := hF1.bounds
          obtain ⟨G1, hG1⟩ : ∃ G, G = B + kk := ⟨_, rfl⟩
          obtain ⟨G2, hG2⟩ : ∃ G, G = B + bs2.length := ⟨_, rfl⟩
          rw [← hG1, ← hG2] at hbo
          replace hG1 := hide_it hG1
          replace hG2 := hide_it hG2
          rw [hLn.out]
          have hS1 := hide_it (hS.below hb1)
          replace hF1 := hide_it hF1
          have hr1' := hide_it hr1
          clear hrd hF hS hr1 ho1
          go_wp2_with fail
          refine hbo.mono ?_
          rintro e y2 ⟨rfl, hb2⟩
          have hF2 := hide_it (hF1.out.below hb2)
          have hS2 := hS1.out.below hb2
          obtain ⟨q1, q2, q3, q4, _, q6⟩ := hS2.row
          rw [hLn.out] at q3
          cases q3
          have hsm := same_any b1 ra b2 rc bs0 L hLn.out y2 (hr1'.out.below hb2) q4 hn1 q6
          have hbx := hide_it (hbw.out.trans ((hb1.trans (hb2.mono hb1.size)).mono hbw.out.size))
          replace hS2 := hide_it hS2
          clear hbo hF1 hn1 q4 q6
          have hd0 : ¬ G1 < G0 := by have := hG0.out; have := hG1.out; have := hbk.out; omega
          have hd1 : ¬ G2 < G1 := by have := hG1.out; have := hG2.out; have := hbk.out; omega
          go_wp2_with fail
          refine hsm.mono ?_
          rintro e y3 ⟨rfl, hq3⟩
          obtain rfl := hq3
          clear hsm
          go_wp2_with fail
          go_roundw
          case rel => exact ⟨m + 1, _, bs2, kk, by omega, by go_num, hpre.out, hLk', by rw [HT.out]; exact hle'.out, hide_it ⟨hF2.out, hlo⟩, hS2, hbx⟩
          case measure => simp [intOf]; omega
        have hF := hFh.out.1
        have hS := hSh.out
        have hlo := hFh.out.2
        have hbw := hbh
        have hLk' := hLk
        have hle' : bs'.length ≤ tot A n + (tot A' m + (1 + zs.length)) := by omega
        have j1 : (K == 1) = false := by simpa using k1
        have j2 : (K == 2) = false := by simpa using k2
        have j7 : (K == 7) = false := by simpa using k7
        clear hFh hSh hbh
        have hrd := hF.read 0 L (by have := hF.le; omega) (B : Int) (by simp)
        rw [show (bs'.take (0 + L)).drop 0 = bs0 by rw [Nat.zero_add, List.drop_zero]; exact hpre] at hrd
        have hbk := hide_it (show B + L ≤ B + k' ∧ B + k' ≤ B + bs'.length ∧ B + bs'.length ≤ 9223372036854775807 from ⟨by omega, by have := hF.le; omega, hF.room.2.1⟩)
        replace hpre := hide_it hpre
        replace hle' := hide_it hle'
        go_wp2_with fail
        refine hrd.mono ?_
        rintro e y1 ⟨⟨r1, rfl, ho1⟩, hb1⟩
        obtain ⟨b1, b2, rfl, hr1, _, _, hn1⟩ := ho1.row
        have hF1 := hF.below hb1
        have hbo := hF1.bounds
        obtain ⟨G1, hG1⟩ : ∃ G, G = B + k' := ⟨_, rfl⟩
        obtain ⟨G2, hG2⟩ : ∃ G, G = B + bs'.length := ⟨_, rfl⟩
        rw [← hG1, ← hG2] at hbo
        replace hG1 := hide_it hG1
        replace hG2 := hide_it hG2
        rw [hLn.out]
        have hS1 := hide_it (hS.below hb1)
        replace hF1 := hide_it hF1
        have hr1' := hide_it hr1
        clear hrd hF hS hr1 ho1
        go_wp2_with fail
        refine hbo.mono ?_
        rintro e y2 ⟨rfl, hb2⟩
        have hF2 := hide_it (hF1.out.below hb2)
        have hS2 := hS1.out.below hb2
        obtain ⟨q1, q2, q3, q4, _, q6⟩ := hS2.row
        rw [hLn.out] at q3
        cases q3
        have hsm := same_any b1 ra b2 rc bs0 L hLn.out y2 (hr1'.out.below hb2) q4 hn1 q6
        have hbx := hide_it (hbw.out.trans ((hb1.trans (hb2.mono hb1.size)).mono hbw.out.size))
        replace hS2 := hide_it hS2
        clear hbo hF1 hn1 q4 q6
        have hd0 : ¬ G1 < G0 := by have := hG0.out; have := hG1.out; have := hbk.out; omega
        have hd1 : ¬ G2 < G1 := by have := hG1.out; have := hG2.out; have := hbk.out; omega
        go_wp2_with fail
        refine hsm.mono ?_
        rintro e y3 ⟨rfl, hq3⟩
        obtain rfl := hq3
        clear hsm
        go_wp2_with fail
        go_roundw
        case rel => exact ⟨m + 1, _, bs', k', by omega, by go_num, hpre.out, hLk', by rw [HT.out]; exact hle'.out, hide_it ⟨hF2.out, hlo⟩, hS2, hbx⟩
        case measure => simp [intOf]; omega
      · have hmn : m = n' := by omega
        subst hmn
        have hfin := hbh.out
        clear hs'
        go_wp2_with fail
        go_ret
        exact ⟨rfl, hfin⟩
end Go.Proofs.Ytndejgnlchnclaa.areaStays
