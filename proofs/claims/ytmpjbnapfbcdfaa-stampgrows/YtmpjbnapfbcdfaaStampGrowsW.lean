/- The law on snapshots that grow, walked. -/
import Derived.Test.YtmpjbnapfbcdfaaCk8
namespace Go.Proofs.Ytmpjbnapfbcdfaa.stampGrows
open Go.RowKit

set_option maxRecDepth 100000 in
set_option maxHeartbeats 4000000 in
theorem walk (a : Option Addr) (n c : Nat) (A : Nat → Sta) (b : Option Addr) (cb : Nat) (ps : List Int) (d : Option Addr) (cd : Nat) (gs : List Int) (w : World) (ha : CameSta w a n A) (hb : CameI w b cb ps) (hd : CameI w d cd gs) :
    Calls Try.prog 8 #[.slice a n c, .slice b ps.length cb, .slice d gs.length cd] w fun e w' => e = .returned (.bool true) ∧ Below w.heap.size w w' := by
  have hn := ha.size
  have hl := hb.size
  have hgl := hd.size
  obtain ⟨L, hL⟩ : ∃ L, L = ps.length := ⟨_, rfl⟩
  obtain ⟨M, hM⟩ : ∃ M, M = gs.length := ⟨_, rfl⟩
  rw [← hL, ← hM]
  rw [← hL] at hl
  rw [← hM] at hgl
  have HL := hide_it hL
  have HM := hide_it hM
  clear hL hM
  go_enter Try.func8, Try.ntmps8
  go_wp2_with fail
  refine (head_any _).mono ?_
  rintro e w0 ⟨rfl, b0⟩
  have h1 := clocks_any a n c A w0 (ha.below b0)
  have z0 := b0.size
  have Hb0 := hide_it (hb.below b0)
  have Hd0 := hide_it (hd.below b0)
  have HB0 := hide_it b0
  clear ha hb hd b0
  go_wp2_with fail
  refine h1.mono ?_
  rintro e w1 ⟨⟨v1, v2, P, rfl, hc1⟩, b1⟩
  clear h1
  have z1 := b1.size
  obtain ⟨pa, ca, rfl, hpa, hca, _⟩ := hc1.rowP
  obtain ⟨pk, qk, rfl, hpk, hqk⟩ := hc1.rowK
  go_wp2_with fail
  go_loopw [28] (fun i wr => ∃ k : Nat, k ≤ n ∧ i = .int .i64 k ∧ wr = w1) (fun i _ => n - (intOf i).toNat)
  case atStart => exact ⟨0, by omega, rfl, rfl⟩
  case round =>
    obtain ⟨k, hk, rfl, rfl⟩ := hrel
    by_cases hlt : k < n
    · have hki : (k : Int) < (n : Int) := by omega
      have hw1 : IntKind.i64.wrap ((k : Int) + 1) = (k : Int) + 1 := i64_in (by omega) (by omega)
      obtain ⟨bp, op, rfl, _, dp⟩ := hpa.here hlt
      have c0 := dp k hlt
      obtain ⟨bk, ok, rfl, _, dk, _, _⟩ := hpk.here hlt
      have hca2 : (k : Int) < (ca : Int) := by omega
      have hqk2 : (k : Int) < (qk : Int) := by omega
      unfold ptrK at c0
      cases ht : (mkC A k).t with
      | true =>
        rw [ht] at c0 dk
        clear hpa hpk dp hc1 ht
        go_wp2
        go_roundw
        case rel => exact ⟨k + 1, by omega, by go_num, trivial⟩
        case measure => simp [intOf]; omega
      | false =>
        rw [ht] at c0 dk
        clear hpa hpk dp hc1 ht
        go_wp2
        go_roundw
        case rel => exact ⟨k + 1, by omega, by go_num, trivial⟩
        case measure => simp [intOf]; omega
    · obtain rfl : k = n := by omega
      clear hlt hpk
      have hcp := copied_any b cb ps wr (Hb0.out.below b1).row (by have := HL.out; omega) Hb0.out.none
      rw [← HL.out] at hcp
      have HC1 := hide_it hc1
      have HB1 := hide_it b1
      clear hc1 b1 hpa
      go_wp2_with fail
      refine hcp.mono ?_
      rintro e w2 ⟨⟨r2, rfl, o2⟩, b2⟩
      clear hcp
      have hc2 := HC1.out.below b2
      obtain ⟨pb, qb, rfl, hpb, _, _, _⟩ := o2.row
      obtain ⟨pa2, ca2, ep, hpa2, _, _⟩ := hc2.rowP
      cases ep
      have htk := take_any pa k ca (mkC A) P pb qb ps w2 hpa2 hc2.pk hc2.ok hpb (by omega) (by have := HL.out; omega)
      have z2 := b2.size
      have HB2 := hide_it (HB1.out.trans (b2.mono z1))
      rw [← HL.out] at htk ⊢
      clear hpa2 hpb o2 b2
      go_wp2_with fail
      refine htk.mono ?_
      rintro e w3 ⟨⟨r3, rfl, o3⟩, b3⟩
      clear htk
      have z3 := b3.size
      have hG : Gs w0 w3 (.slice pa k ca) k (mkC A) (mkC A) P r3 (vecOf k (mkC A) ps) ps false :=
        ⟨hc2.ptr.below b3, o3.mono (by omega), fun i hi => (hc2.pk i hi).below b3, hc2.ok, fun i hi => ⟨(hc2.low i hi).1, Nat.lt_of_lt_of_le (hc2.low i hi).2 z3⟩, hc2.apart, fun i hi => ⟨rfl, Int.le_refl _⟩,
          ⟨fun h => (by cases h), fun ⟨i, _, _, _, h⟩ => absurd h (Int.lt_irrefl _)⟩, HB2.out.trans (b3.mono (by omega))⟩
      have HG := hide_it hG
      clear hG hc2 o3 b3
      go_wp2_with fail
      go_loopw [11, 50] (fun v i wr => ∃ (j : Nat) (C : Nat → Ck) (m : Bool), j ≤ M ∧ i = .int .i64 j ∧ v = .bool m ∧ Gs w0 wr (.slice pa k ca) k (mkC A) C P r3 (vecOf k (mkC A) ps) ps m) (fun _ i _ => M - (intOf i).toNat)
      case atStart => exact ⟨0, mkC A, false, by omega, rfl, rfl, HG.out⟩
      case round =>
        clear HG
        obtain ⟨j, C, m, hj, rfl, rfl, hG⟩ := hrel
        by_cases hjl : j < M
        · have hji : (j : Int) < (M : Int) := by omega
          have hw1 : IntKind.i64.wrap ((j : Int) + 1) = (j : Int) + 1 := i64_in (by omega) (by omega)
          have hjg : j < gs.length := by have := HM.out; omega
          obtain ⟨b5, o5, rfl, l5, d5⟩ := Hd0.out.row.here hjg
          have e5 := (hG.bel.cell (p := ⟨b5, o5 + j, none⟩) l5).trans (d5 j hjg)
          obtain ⟨X, hX⟩ : ∃ X, X = atI gs j := ⟨_, rfl⟩
          rw [← hX] at e5
          clear hX d5
          obtain ⟨pa3, ca3, ep, hpa3, hca3⟩ := hG.row
          cases ep
          have HGG := hide_it hG
          clear hG
          by_cases h0 : X < 0
          · clear hpa3
            go_wp2
            go_roundw
            case rel => exact ⟨j + 1, C, m, by omega, by go_num, rfl, HGG.out⟩
            case measure => simp [intOf]; omega
          · by_cases h1 : X < (k : Int)
            · obtain ⟨g, rfl⟩ : ∃ g : Nat, X = (g : Int) := ⟨X.toNat, by omega⟩
              have hg : g < k := by omega
              obtain ⟨bp, op, rfl, _, dp⟩ := hpa3.here hg
              have c0 := dp g hg
              have hgc : (g : Int) < (ca : Int) := by omega
              unfold ptrK at c0
              cases ht : (C g).t with
              | false =>
                rw [ht] at c0
                clear hpa3 dp ht
                go_wp2
                go_roundw
                case rel => exact ⟨j + 1, C, m, by omega, by go_num, rfl, HGG.out⟩
                case measure => simp [intOf]; omega
              | true =>
                rw [ht] at c0
                have hnx := next_any (C g) (HGG.out.ok g hg) (P g) wr (HGG.out.pk g hg)
                have ep2 : ptrK (C g) (P g) = .pointer (some ⟨P g, 0, none⟩) := by simp [ptrK, ht]
                rw [ep2] at hnx
                have HT := hide_it ht
                obtain ⟨E, hE⟩ : ∃ E, E = nextE (C g) := ⟨_, rfl⟩
                obtain ⟨N, hN⟩ : ∃ N, N = nextN (C g) := ⟨_, rfl⟩
                rw [← hE, ← hN] at hnx
                have HE := hide_it hE
                clear hE hN hpa3 dp ht ep2
                go_wp2_with fail
                refine hnx.mono ?_
                rintro e w6 ⟨rfl, htk⟩
                clear hnx
                have HG6 := hide_it (HGG.out.tick hg HT.out htk)
                rw [← HE.out] at HG6
                clear htk HGG c0 e5
                go_wp2_with fail
                go_loopw [11, 79] (fun v i wr' => ∃ (q : Nat) (m' : Bool), q ≤ L ∧ i = .int .i64 q ∧ v = .bool m' ∧ Hid (m' = (m || (decide ((g : Int) ∈ ps.take q) && decide (E = 0)))) ∧ wr' = w6) (fun _ i _ => L - (intOf i).toNat)
                case atStart => exact ⟨0, m, by omega, rfl, rfl, by unfold Hid; simp, rfl⟩
                case round =>
                  obtain ⟨q, m', hq, rfl, rfl, HQ, rfl⟩ := hrel
                  by_cases hql : q < L
                  · have hqi : (q : Int) < (L : Int) := by omega
                    have hw2 : IntKind.i64.wrap ((q : Int) + 1) = (q : Int) + 1 := i64_in (by omega) (by omega)
                    have hqp : q < ps.length := by have := HL.out; omega
                    obtain ⟨b7, o7, rfl, l7, d7⟩ := Hb0.out.row.here hqp
                    have e7 := (HG6.out.bel.cell (p := ⟨b7, o7 + q, none⟩) l7).trans (d7 q hqp)
                    have HS := hide_it (mem_take_succ hqp (g : Int))
                    obtain ⟨Y, hY⟩ : ∃ Y, Y = atI ps q := ⟨_, rfl⟩
                    rw [← hY] at e7 HS
                    clear hY d7
                    by_cases hyg : Y = (g : Int)
                    · have hd1 : (Y == (g : Int)) = true := by simpa using hyg
                      by_cases hE0 : E = 0
                      · have hd2 : (E == 0) = true := by simpa using hE0
                        have HQ2 : Hid (true = (m || (decide ((g : Int) ∈ ps.take (q + 1)) && decide (E = 0)))) := by
                          unfold Hid; simp [HS.out.2 (.inr hyg.symm), hE0]
                        clear hyg hE0 HS
                        go_wp2
                        go_roundw
                        case rel => exact ⟨q + 1, true, by omega, by go_num, rfl, HQ2, trivial⟩
                        case measure => simp [intOf]; omega
                      · have hd2 : (E == 0) = false := by simpa using hE0
                        have HQ2 : Hid (m' = (m || (decide ((g : Int) ∈ ps.take (q + 1)) && decide (E = 0)))) := by
                          unfold Hid; rw [HQ.out]; simp [hE0]
                        clear hyg hE0 HS
                        go_wp2
                        go_roundw
                        case rel => exact ⟨q + 1, m', by omega, by go_num, rfl, HQ2, trivial⟩
                        case measure => simp [intOf]; omega
                    · have hd1 : (Y == (g : Int)) = false := by simpa using hyg
                      have HQ2 : Hid (m' = (m || (decide ((g : Int) ∈ ps.take (q + 1)) && decide (E = 0)))) := by
                        unfold Hid; rw [HQ.out]
                        have : ((g : Int) ∈ ps.take (q + 1)) ↔ ((g : Int) ∈ ps.take q) := by rw [HS.out]; exact ⟨fun x => x.elim id (fun e => absurd e.symm hyg), .inl⟩
                        simp only [this]
                      clear hyg HS
                      go_wp2
                      go_roundw
                      case rel => exact ⟨q + 1, m', by omega, by go_num, rfl, HQ2, trivial⟩
                      case measure => simp [intOf]; omega
                  · have hm : m' = (m || (decide ((g : Int) ∈ ps) && decide (E = 0))) := by
                      have h1 := HQ.out; have h2 := HL.out
                      rw [show q = ps.length by omega, List.take_length] at h1; exact h1
                    have HM2 := hide_it hm
                    clear hm
                    go_wp2
                    go_roundw
                    case rel => exact ⟨j + 1, goOn C g, m', by omega, by go_num, rfl, by rw [HM2.out]; exact HG6.out⟩
                    case measure => simp [intOf]; omega
            · have h2 : (k : Int) ≤ X := by omega
              clear hpa3
              go_wp2
              go_roundw
              case rel => exact ⟨j + 1, C, m, by omega, by go_num, rfl, HGG.out⟩
              case measure => simp [intOf]; omega
        · have hcp := copied_any b cb ps wr (Hb0.out.below hG.bel).row (by have := HL.out; omega) Hb0.out.none
          rw [← HL.out] at hcp
          have HG7 := hide_it hG
          clear hG
          go_wp2_with fail
          refine hcp.mono ?_
          rintro e w7 ⟨⟨r7, rfl, o7⟩, b7⟩
          clear hcp
          have hG7 := HG7.out.below b7
          obtain ⟨pb, qb, rfl, hpb, _, _, _⟩ := o7.row
          obtain ⟨pa3, ca3, ep, hpa3, _⟩ := hG7.row
          cases ep
          have htk := take_any pa k ca C P pb qb ps w7 hpa3 hG7.pk hG7.ok hpb (by omega) (by have := HL.out; omega)
          rw [← HL.out] at htk ⊢
          have HG8 := hide_it hG7
          have HBB := hide_it (fun w' (h : Below w0.heap.size w0 w') => HB0.out.trans (h.mono z0))
          clear hG7 hpa3 hpb o7 b7 HG7
          go_wp2_with fail
          refine htk.mono ?_
          rintro e w8 ⟨⟨r8, rfl, o8⟩, b8⟩
          clear htk
          have hG8 := HG8.out.below b8
          have o3 := hG8.own
          obtain ⟨p3, q3, rfl, hp3, _, _, hn3⟩ := o3.row
          have hcp := copied_any p3 q3 _ w8 hp3 (by rw [vecOf_len]; omega) hn3
          have HG9 := hide_it hG8
          have HO8 := hide_it o8
          clear hG8 o3 o8 b8 hp3 hn3
          rw [vecOf_len] at hcp ⊢
          go_wp2_with fail
          refine hcp.mono ?_
          rintro e w9 ⟨⟨r9, rfl, o9⟩, b9⟩
          clear hcp
          obtain ⟨p8, q8, rfl, hp8, _, _, hn8⟩ := (HO8.out.below b9).row
          have hcp := copied_any p8 q8 _ w9 hp8 (by rw [vecOf_len]; omega) hn8
          have HGA := hide_it (HG9.out.below b9)
          have HOA := hide_it (HO8.out.below b9)
          have HO9 := hide_it o9
          clear b9 hp8 hn8 o9
          rw [vecOf_len] at hcp
          rw [vecOf_len] at HOA
          rw [vecOf_len]
          go_wp2_with fail
          refine hcp.mono ?_
          rintro e wa ⟨⟨ra, rfl, oa⟩, ba⟩
          clear hcp
          obtain ⟨p9, q9, rfl, hp9, _, _, _⟩ := (HO9.out.below ba).row
          obtain ⟨pA, qA, rfl, hpA, _, _, _⟩ := oa.row
          have hbl := below_any p9 pA q9 qA _ _ wa hp9 hpA (by rw [vecOf_len]; omega)
          have hGb := HGA.out.below ba
          have hob := HOA.out.below ba
          have hlat := hGb.later
          rw [underB_yes hlat.1] at hbl
          have HLA := hide_it hlat.2
          have HGB := hide_it hGb
          have HOB := hide_it hob
          clear hlat hGb hob hp9 hpA oa ba
          rw [vecOf_len, vecOf_len] at hbl
          rw [vecOf_len, vecOf_len]
          go_wp2_with fail
          refine hbl.mono ?_
          rintro e wb ⟨rfl, bb⟩
          clear hbl
          have hGc := HGB.out.below bb
          obtain ⟨p3', q3', e3, hp3, _, _, _⟩ := hGc.own.row
          rw [vecOf_len] at e3
          cases e3
          obtain ⟨p8', q8', e8, hp8, _, _, _⟩ := (HOB.out.below bb).row
          rw [vecOf_len] at e8
          cases e8
          have hsm := same_any p3 p8 q3 q8 _ _ wb hp3 hp8 (by rw [vecOf_len]; omega)
          rw [vecOf_len, vecOf_len] at hsm
          have HB9 := hide_it (HBB.out _ hGc.bel)
          have hl2 := HLA.out
          clear hp3 hp8 hGc bb HGB HOB
          generalize decide (vecOf k (mkC A) ps = vecOf k C ps) = B at *
          have z9 := HB9.out.size
          cases B <;> cases m <;> try (simp at hl2)
          all_goals
            clear hl2
            go_wp2_with (refine hsm.mono ?_; rintro e wc ⟨rfl, bc⟩)
            go_ret
            exact ⟨by simp, HB9.out.trans (bc.mono z9)⟩
end Go.Proofs.Ytmpjbnapfbcdfaa.stampGrows
