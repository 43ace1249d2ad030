/- The law that a reader keeps bytes of its own and answers new memory, walked. -/
import Derived.Test.YtfhinodieghklabOwn1
import Derived.Test.YtfhinodieghklabUp
import Derived.Test.YtfhinodieghklabOpen8
namespace Go.Proofs.Ytfhinodieghklab.codecOwn
open Go.RowKit

theorem at0_rep {n x i : Nat} (h : i < n) : at0 (List.replicate n x) i = x := by
  unfold at0; rw [List.getD_eq_getElem?_getD, List.getElem?_replicate, if_pos h]; rfl
theorem mark_row {n m x y : Nat} : ∀ i, i < (List.replicate n x ++ List.replicate m y).length → at0 (List.replicate n x ++ List.replicate m y) i = if i < n then x else y := fun i hi => by
  simp at hi
  unfold at0
  rw [List.getD_eq_getElem?_getD]
  by_cases h : i < n
  · rw [if_pos h, List.getElem?_append_left (by simpa using h), List.getElem?_replicate, if_pos h]; rfl
  · rw [if_neg h, List.getElem?_append_right (by simp; omega), List.getElem?_replicate, if_pos (by simp; omega)]; rfl
theorem ob (a : Option Addr) (n c g : Nat) (h : a = some ⟨g, 0, none⟩) : (Value.slice a n c).ownBlock = some g := by rw [h]; rfl

set_option maxRecDepth 100000 in
set_option maxHeartbeats 2000000 in
theorem walk (a : Option Addr) (ca : Nat) (ps : List Nat) (b : Option Addr) (cb : Nat) (qs : List Nat) (w : World) (ha : Came8 w a ca ps) (hal : ps.length ≤ 1048576) (hb : Came8 w b cb qs) (hbl : qs.length ≤ 1048576) :
    Calls Try.prog 8 #[.slice a ps.length ca, .slice b qs.length cb] w fun e w' => e = .returned (.bool true) ∧ Below w.heap.size w w' := by
  have h10p : (shortL (2 * ps.length)).length ≤ 10 := shortL_ten (by unfold W64; omega)
  have h10q : (shortL (2 * qs.length)).length ≤ 10 := shortL_ten (by unfold W64; omega)
  have hx := rputBytes_any none a 0 ca [] ps w (.inl rfl) ha.row (by simp; omega) (fun _ => ⟨rfl, rfl⟩) ha.none
  have h8L : All8 ([] ++ shortL (2 * ps.length) ++ ps ++ shortL (2 * qs.length) ++ qs) := fun z hz => by
    simp only [List.nil_append, List.mem_append] at hz
    rcases hz with ((h | h) | h) | h
    · exact shortL_all 9 _ (ten (by unfold W64; omega)) z h
    · exact ha.all z h
    · exact shortL_all 9 _ (ten (by unfold W64; omega)) z h
    · exact hb.all z h
  have hcp : takeCounted (ps.length : Int) ([] ++ shortL (2 * ps.length) ++ ps ++ shortL (2 * qs.length) ++ qs) = .ok (ps, shortL (2 * qs.length) ++ qs) := by
    rw [List.nil_append, List.append_assoc (shortL (2 * ps.length) ++ ps)]; exact counted_back (by omega) _
  have hcq : takeCounted (qs.length : Int) (shortL (2 * qs.length) ++ qs) = .ok (qs, []) := by
    have := counted_back (p := qs) (by omega) []
    rwa [List.append_nil] at this
  obtain ⟨L, hL⟩ : ∃ L, L = [] ++ shortL (2 * ps.length) ++ ps ++ shortL (2 * qs.length) ++ qs := ⟨_, rfl⟩
  obtain ⟨M, hM⟩ : ∃ M, M = shortL (2 * qs.length) ++ qs := ⟨_, rfl⟩
  obtain ⟨N, hN⟩ : ∃ N, N = [] ++ shortL (2 * ps.length) ++ ps := ⟨_, rfl⟩
  have hNl : N.length ≤ 10 + ps.length := by rw [hN]; simp; omega
  have hLl : L.length ≤ 20 + ps.length + qs.length := by rw [hL]; simp; omega
  have hMl : M.length ≤ 10 + qs.length := by rw [hM]; simp; omega
  have HLN : Hid (L = N ++ shortL (2 * qs.length) ++ qs) := by unfold Hid; rw [hL, hN]
  rw [← hL] at h8L hcp
  rw [← hM] at hcp hcq
  rw [← hN] at hx
  have HA := hide_it ha
  have HB := hide_it hb
  have H8 := hide_it h8L
  have HCP := hide_it hcp
  have HCQ := hide_it hcq
  clear ha hb hL hM hN h8L hcp hcq
  go_enter Try.func8, Try.ntmps8
  go_wp2_with fail
  refine hx.mono ?_
  rintro e w1 ⟨⟨r1, rfl, ho1⟩, hb1⟩
  obtain ⟨a1, c1, hv1, hr1, _, _, hn1⟩ := ho1.row
  subst hv1
  have hx2 := rputBytes_any a1 b c1 cb N qs w1 hr1 (HB.out.row.below hb1) (by omega) hn1 HB.out.none
  rw [← HLN.out] at hx2
  clear hx ho1 hr1 hn1
  go_wp2_with fail
  refine hx2.mono ?_
  rintro e w2 ⟨⟨r2, rfl, ho2⟩, hb2⟩
  obtain ⟨a2, c2, hv2, hr2, _, _, hn2⟩ := ho2.row
  subst hv2
  have hbw2 := hb1.trans (hb2.mono hb1.size)
  have hx3 := roomy_any a2 c2 L w2 hr2 (by omega) hn2
  have HR2 := hide_it hr2
  have HN2 := hide_it hn2
  clear hx2 ho2 hr2 hn2 hb1 hb2
  go_wp2_with fail
  refine hx3.mono ?_
  rintro e w3 ⟨⟨r3, rfl, ho3⟩, hb3⟩
  obtain ⟨a3, c3, hv3, hr3, hf3, _, hn3⟩ := ho3.row
  subst hv3
  have hGp : 0 < (L ++ room).length := by simp
  obtain ⟨G, hG⟩ : ∃ G, G = L ++ room := ⟨_, rfl⟩
  have hGl1 : G.length ≤ 120 + ps.length + qs.length := by rw [hG]; simp; omega
  have hLc : L.length ≤ c3 := by simp at hf3; omega
  rw [← hG] at hr3 hn3 ho3 hGp ⊢
  have HG := hide_it hG
  obtain ⟨gA, curA, hga, _, hgA, hhA, _⟩ := ho3.at hGp
  have hgA3 : gA < w3.heap.size := (Array.getElem?_eq_some_iff.1 hhA).1
  subst hga
  have hrL : RowB w3 (some ⟨gA, 0, none⟩) L := by
    have h9 := ((RowLt.of_row hr3).take L.length).row
    rw [HG.out, List.take_left' rfl] at h9
    exact h9
  have hop1 := open_own (some ⟨gA, 0, none⟩) c3 L w3 hrL H8.out (by omega) (fun e => by cases e)
  have hbw3 := hbw2.trans (hb3.mono hbw2.size)
  have hw2w := hbw2.size
  have HO3 := hide_it ho3
  have HR3 := hide_it hr3
  have HRL := hide_it hrL
  have HB2 := hide_it hb3
  have HBW3 := hide_it hbw3
  have hsz3 := hb3.size
  clear hx3 hG hr3 ho3 hn3 hf3 hrL hhA hb3 hbw3 hbw2
  go_wp2_with fail
  refine hop1.mono ?_
  rintro e w4 ⟨p1, rfl, hp1, hp1l, hup1, hb4⟩
  have hop2 := open_own (some ⟨gA, 0, none⟩) c3 L w4 (HRL.out.below hb4) H8.out (by omega) (fun e => by cases e)
  have HU1 := hide_it hup1
  have HB4 := hide_it hb4
  have hsz4 := hb4.size
  clear hop1 hup1 hb4
  go_wp2_with fail
  refine hop2.mono ?_
  rintro e w5 ⟨p2, rfl, hp2, hp2l, hup2, hb5⟩
  have hb35 := HB4.out.trans (hb5.mono HB4.out.size)
  have hwh := whole_any (some ⟨gA, 0, none⟩) a2 c3 c2 G L w5 (HR3.out.below hb35) ((HR2.out.below HB2.out).below hb35) (by omega) (by omega) HN2.out
  rw [decide_eq_true HG.out] at hwh
  have HU2 := hide_it hup2
  have HB5 := hide_it hb5
  have hsz5 := hb5.size
  have HO5 := hide_it (HO3.out.below hb35)
  have HBW5 := hide_it (HBW3.out.trans (hb35.mono HBW3.out.size))
  clear hop2 hup2 hb5 hb35
  go_wp2_with fail
  refine hwh.mono ?_
  rintro e w6 ⟨rfl, hb6⟩
  have HO6 := hide_it (HO5.out.below hb6)
  have HBW6 := hide_it (HBW5.out.trans (hb6.mono HBW5.out.size))
  have HB6 := hide_it hb6
  have hsz6 := hb6.size
  clear hwh hb6 HO5 HBW5 HO3 HR3 HRL HB2
  go_wp2_with fail
  go_loopw [35] (fun i wr => ∃ k : Nat, k ≤ G.length ∧ i = .int .i64 (k : Int) ∧ OwnB wr w2.heap.size (.slice (some ⟨gA, 0, none⟩) G.length c3) (List.replicate k 7 ++ G.drop k) ∧ w6.grownBy wr (some gA)) (fun i _ => G.length - (intOf i).toNat)
  case atStart => exact ⟨0, by omega, rfl, by simpa using HO6.out, World.grownBy.refl _ _⟩
  case round =>
    obtain ⟨k, hk, rfl, hown, hgw⟩ := hrel
    by_cases hlt : k < G.length
    · have hfl := fill_len (zs := G) (x := 7) hk
      obtain ⟨gB, cur, hge, heq0, hbg, hh, hcur⟩ := hown.at (by omega)
      obtain ⟨x0, hck⟩ : ∃ x0 : Int, wr.cell? ⟨gB, k, none⟩ = some (.int .u8 x0) := ⟨_, (cell_of_row _ _ _ _ _ _ hh).trans (hcur k (by omega))⟩
      clear heq0
      have hfk := frozen_of_row wr gB k _ _ hh
      have hd : decide ((k : Int) < (G.length : Int)) = true := by simp; omega
      have hi1 : (k : Int) < (G.length : Int) := by omega
      have hgs := grown_setCell (World.grownBy.refl wr (some gB)) k (.int .u8 7)
      have hgg : gB = gA := by cases hge; rfl
      subst hgg
      have HKP := hide_it (grown_setCell hgw k (.int .u8 7))
      clear hgw
      clear hge
      have hset := hown.set (i := k) (by omega) 7
      rw [fill_step hlt] at hset
      have HST := hide_it hset
      clear hown hset hh hcur hfl hgs
      go_wp2_with fail
      go_roundw
      case rel => exact ⟨k + 1, by omega, by go_num, HST.out, HKP.out⟩
      case measure => simp [intOf]; omega
    · have hke : k = G.length := by omega
      have hd : decide ((k : Int) < (G.length : Int)) = false := by simp; omega
      have hfull : OwnB wr w2.heap.size (.slice (some ⟨gA, 0, none⟩) G.length c3) (List.replicate G.length 7) := by rw [hke, fill_all] at hown; exact hown
      clear hown
      have hbw : Below w.heap.size w wr := HBW6.out.grown hgw HBW6.out.size (fun i e => by cases e; omega)
      have hr1 : Rst wr (some ⟨p1, 0, none⟩) (L, 0) := HU1.out wr (by have := hgw.size; omega) (fun k h1 h2 => (hgw.block k (by omega) (by simp; omega)).trans ((HB6.out.block k (by omega)).trans (HB5.out.block k h2)))
      have hk2 : ∀ k, w4.heap.size ≤ k → k < w5.heap.size → wr.heap[k]? = w5.heap[k]? := fun k h1 h2 => (hgw.block k (by omega) (by simp; omega)).trans (HB6.out.block k (by omega))
      have hr2 : Rst wr (some ⟨p2, 0, none⟩) (L, 0) := HU2.out wr (by have := hgw.size; omega) hk2
      have hwr5 : w5.heap.size ≤ wr.heap.size := by have := hgw.size; omega
      have hby1 := bytes_any (some ⟨p1, 0, none⟩) (ps.length : Int) (L, 0) wr hr1 (by show L.length ≤ _; omega) (by omega) (by omega)
      rw [rd_ok HCP.out] at hby1
      have HR1 := hide_it hr1
      have HBW := hide_it hbw
      have HK2 := hide_it hk2
      have HFA := hide_it hfull
      clear hr1 hr2 hbw hk2 hgw HO6 HBW6 HB6 HB5 HB4 HU1 hfull hke
      generalize wr = w7 at *
      go_wp2_with fail
      refine hby1.mono ?_
      rintro e w8 ⟨⟨r8, rfl, ho8⟩, hr8, hg8⟩
      obtain ⟨a8, c8, hv8, _, _, _, _⟩ := ho8.row
      subst hv8
      have hbw8 : Below w.heap.size w w8 := HBW.out.grown hg8 HBW.out.size (fun i e => by cases e; show w.heap.size ≤ p1; omega)
      have hby2 := bytes_any (some ⟨p1, 0, none⟩) (qs.length : Int) (M, 0) w8 hr8 (by show M.length ≤ _; omega) (by omega) (by omega)
      rw [rd_ok HCQ.out] at hby2
      have hin8 := ho8.inside
      have hsz8 := hg8.size
      have hp17 : p1 < w7.heap.size := by omega
      have hgA7 : gA < w7.heap.size := by omega
      have hFA8 := HFA.out.keep hg8 (fun j e => by cases e; show some p1 ≠ some gA; simp; omega)
      have hK8 : ∀ k, w4.heap.size ≤ k → k < w5.heap.size → w8.heap[k]? = w5.heap[k]? := fun k h1 h2 => (hg8.block k (by omega) (by show some k ≠ some p1; simp; omega)).trans (HK2.out k h1 h2)
      have HO8 := hide_it ho8
      have HG8 := hide_it hg8
      have HBW8 := hide_it hbw8
      have HFA8 := hide_it hFA8
      have HK8 := hide_it hK8
      clear hby1 ho8 hr8 hg8 hbw8 hFA8 hK8 HFA HK2 HBW
      go_wp2_with fail
      refine hby2.mono ?_
      rintro e w9 ⟨⟨r9, rfl, ho9⟩, _, hg9⟩
      obtain ⟨a9, c9, hv9, hr9, _, _, _⟩ := ho9.row
      subst hv9
      have hsz9 := hg9.size
      have hbw9 : Below w.heap.size w w9 := HBW8.out.grown hg9 HBW8.out.size (fun i e => by cases e; show w.heap.size ≤ p1; omega)
      have hone9 := HO8.out.keep hg9 (fun j e => by have := HO8.out.ge e; show some p1 ≠ some j; simp; omega)
      have hFA9 := HFA8.out.keep hg9 (fun j e => by cases e; show some p1 ≠ some gA; simp; omega)
      have hK9 : ∀ k, w4.heap.size ≤ k → k < w5.heap.size → w9.heap[k]? = w5.heap[k]? := fun k h1 h2 => (hg9.block k (by omega) (by show some k ≠ some p1; simp; omega)).trans (HK8.out k h1 h2)
      obtain ⟨a10, c10, e10, hr10, _, _, _⟩ := hone9.row
      cases e10
      have hq1 := equal_any a8 a c8 ca ps ps w9 hr10 (HA.out.row.below hbw9) (by unfold maxLen; omega) (by unfold maxLen; omega)
      have hq2 := fun q => equal_any a9 b c9 cb qs qs (w9.drewN q) (hr9.below (below_drewN (Below.refl _ _) q)) ((HB.out.row.below hbw9).below (below_drewN (Below.refl _ _) q)) (by unfold maxLen; omega) (by unfold maxLen; omega)
      rw [decide_eq_true (rfl : ps = ps)] at hq1
      simp only at hq2
      have HO1 := hide_it hone9
      have HO2 := hide_it ho9
      have HFA9 := hide_it hFA9
      have HK9 := hide_it hK9
      have HBW9 := hide_it hbw9
      clear hby2 hone9 ho9 hFA9 hK9 hbw9 hg9 hr9 hr10 HO8 HG8 HBW8 HFA8 HK8
      go_wp2_with fail
      refine hq1.mono ?_
      rintro e w' ⟨rfl, q1, rfl⟩
      clear hq1
      go_wp2_with fail
      refine (hq2 q1).mono ?_
      rintro e w' ⟨rfl, q2, rfl⟩
      clear hq2
      have hbd := below_drewN (Below.refl w9.heap.size w9) (q1 + q2)
      have HO1a := hide_it (HO1.out.below hbd)
      have HO2a := hide_it (HO2.out.below hbd)
      have HFAa := hide_it (HFA9.out.below hbd)
      have HKa : Hid (∀ k, w4.heap.size ≤ k → k < w5.heap.size → (w9.drewN (q1 + q2)).heap[k]? = w5.heap[k]?) := HK9.out
      have HBWa := hide_it (below_drewN HBW9.out (q1 + q2))
      have hszA : w8.heap.size ≤ (w9.drewN (q1 + q2)).heap.size := hsz9
      clear HO1 HO2 HFA9 HK9 HBW9 hbd
      go_wp2_with fail
      generalize w9.drewN (q1 + q2) = w10 at *
      go_loopw [62] (fun i wr => ∃ k : Nat, k ≤ ps.length ∧ i = .int .i64 (k : Int) ∧ OwnB wr w7.heap.size (.slice a8 ps.length c8) (List.replicate k 1 ++ ps.drop k) ∧ OwnB wr w8.heap.size (.slice a9 qs.length c9) qs ∧ Below w7.heap.size w10 wr) (fun i _ => ps.length - (intOf i).toNat)
      case atStart => exact ⟨0, by omega, rfl, by simpa using HO1a.out, HO2a.out, Below.refl _ _⟩
      case round =>
        obtain ⟨k, hk, rfl, hown, htwo, hbe⟩ := hrel
        by_cases hlt : k < ps.length
        · have hfl := fill_len (zs := ps) (x := 1) hk
          obtain ⟨gB, cur, hge, heq0, hbg, hh, hcur⟩ := hown.at (by omega)
          obtain ⟨x0, hck⟩ : ∃ x0 : Int, wr.cell? ⟨gB, k, none⟩ = some (.int .u8 x0) := ⟨_, (cell_of_row _ _ _ _ _ _ hh).trans (hcur k (by omega))⟩
          clear heq0
          have hfk := frozen_of_row wr gB k _ _ hh
          have hd : decide ((k : Int) < (ps.length : Int)) = true := by simp; omega
          have hi1 : (k : Int) < (ps.length : Int) := by omega
          have hgs := grown_setCell (World.grownBy.refl wr (some gB)) k (.int .u8 1)
          have hgi := hin8 gB (ob _ _ _ _ hge)
          have hk1 := htwo.keep hgs (fun j e => by have := htwo.ge e; simp; omega)
          have HKP := hide_it (And.intro hk1 (hbe.setCell (p := ⟨gB, k, none⟩) hbg (.int .u8 1)))
          clear htwo hbe hk1
          subst hge
          have hset := hown.set (i := k) (by omega) 1
          rw [fill_step hlt] at hset
          have HST := hide_it hset
          clear hown hset hh hcur hfl hgs
          go_wp2_with fail
          go_roundw
          case rel => exact ⟨k + 1, by omega, by go_num, HST.out, HKP.out⟩
          case measure => simp [intOf]; omega
        · have hke : k = ps.length := by omega
          have hd : decide ((k : Int) < (ps.length : Int)) = false := by simp; omega
          have hfull : OwnB wr w7.heap.size (.slice a8 ps.length c8) (List.replicate ps.length 1) := by rw [hke, fill_all] at hown; exact hown
          clear hown
          have HON := hide_it hfull
          have HTW := hide_it htwo
          have HBE := hide_it hbe
          clear hfull htwo hbe hke
          go_wp2_with fail
          go_loopw [71] (fun i wr => ∃ k : Nat, k ≤ qs.length ∧ i = .int .i64 (k : Int) ∧ OwnB wr w8.heap.size (.slice a9 qs.length c9) (List.replicate k 2 ++ qs.drop k) ∧ OwnB wr w7.heap.size (.slice a8 ps.length c8) (List.replicate ps.length 1) ∧ Below w7.heap.size w10 wr) (fun i _ => qs.length - (intOf i).toNat)
          case atStart => exact ⟨0, by omega, rfl, by simpa using HTW.out, HON.out, HBE.out⟩
          case round =>
            obtain ⟨k, hk, rfl, hown, hone, hbe⟩ := hrel
            by_cases hlt : k < qs.length
            · have hfl := fill_len (zs := qs) (x := 2) hk
              obtain ⟨gB, cur, hge, heq0, hbg, hh, hcur⟩ := hown.at (by omega)
              obtain ⟨x0, hck⟩ : ∃ x0 : Int, wr.cell? ⟨gB, k, none⟩ = some (.int .u8 x0) := ⟨_, (cell_of_row _ _ _ _ _ _ hh).trans (hcur k (by omega))⟩
              clear heq0
              have hfk := frozen_of_row wr gB k _ _ hh
              have hd : decide ((k : Int) < (qs.length : Int)) = true := by simp; omega
              have hi1 : (k : Int) < (qs.length : Int) := by omega
              have hgs := grown_setCell (World.grownBy.refl wr (some gB)) k (.int .u8 2)
              have hk1 := hone.keep hgs (fun j e => by have := hin8 j e; simp; omega)
              have HKP := hide_it (And.intro hk1 (hbe.setCell (p := ⟨gB, k, none⟩) (show w7.heap.size ≤ gB by omega) (.int .u8 2)))
              clear hone hbe hk1
              subst hge
              have hset := hown.set (i := k) (by omega) 2
              rw [fill_step hlt] at hset
              have HST := hide_it hset
              clear hown hset hh hcur hfl hgs
              go_wp2_with fail
              go_roundw
              case rel => exact ⟨k + 1, by omega, by go_num, HST.out, HKP.out⟩
              case measure => simp [intOf]; omega
            · have hke : k = qs.length := by omega
              have hd : decide ((k : Int) < (qs.length : Int)) = false := by simp; omega
              have hfull : OwnB wr w8.heap.size (.slice a9 qs.length c9) (List.replicate qs.length 2) := by rw [hke, fill_all] at hown; exact hown
              clear hown
              have HON := hide_it hone
              have HTW := hide_it hfull
              have HDI : Hid (∀ j, (Value.slice a8 ps.length c8).ownBlock = some j → (Value.slice a9 qs.length c9).ownBlock ≠ some j) := fun j e e2 => by have := hin8 j e; have := hfull.ge e2; omega
              have HBE := hide_it hbe
              clear hone hfull hbe hke
              go_wp2_with fail
              go_loopw [11, 78] (fun v i wr => ∃ k : Nat, k ≤ 70 ∧ i = .int .i64 (k : Int) ∧ OwnB wr w7.heap.size v (List.replicate ps.length 1 ++ List.replicate k 3) ∧ OwnB wr w8.heap.size (.slice a9 qs.length c9) (List.replicate qs.length 2) ∧ (∀ j, v.ownBlock = some j → (Value.slice a9 qs.length c9).ownBlock ≠ some j) ∧ Below w7.heap.size w10 wr) (fun _ i _ => 70 - (intOf i).toNat)
              case atStart => exact ⟨0, by omega, rfl, by simpa using HON.out, HTW.out, HDI.out, HBE.out⟩
              case round =>
                obtain ⟨k, hk, rfl, hown, htwo, hdis, hbe⟩ := hrel
                by_cases hlt : k < 70
                · have hd : decide ((k : Int) < 70) = true := by simp; omega
                  have hll : (List.replicate ps.length 1 ++ List.replicate k 3).length + 1 ≤ 140737488355328 := by simp; omega
                  have hbs : w7.heap.size ≤ wr.heap.size := (by have := hbe.size; omega)
                  go_wp2_with (at_builtin; refine wpList_append_byte _ rfl _ _ rfl w7.heap.size _ _ rfl hown 3 rfl hll hbs ?_; intro v4 w4 hown4 hg4 hat4)
                  rw [more_step] at hown4
                  have hal : Below wr.heap.size wr (wr.alloc (.cells #[.int .u8 3] 5)) := (Below.refl _ _).alloc (Nat.le_refl _) _
                  have ht4 := (htwo.below hal).keep hg4 (fun j e e2 => hdis j e2 e)
                  have hd4 : ∀ j, v4.ownBlock = some j → (Value.slice a9 qs.length c9).ownBlock ≠ some j := fun j e e2 => by
                    rcases hat4 with h | h
                    · rw [h] at e; exact hdis j e e2
                    · rw [h] at e; cases e; have := htwo.inside _ e2; omega
                  have hb4 : Below w7.heap.size w10 w4 := (hbe.alloc (by have := hbe.size; omega) _).grown hg4 (by simp; omega) (fun j e => hown.ge e)
                  have HKP := hide_it (And.intro ht4 (And.intro hd4 hb4))
                  go_roundw
                  case rel => exact ⟨k + 1, by omega, by go_num, hown4, HKP.out⟩
                  case measure => simp [intOf]; omega
                · have hke : k = 70 := by omega
                  rw [hke] at hown
                  have hd : decide ((k : Int) < 70) = false := by simp; omega
                  clear hke
                  obtain ⟨a15, c15, e15, _⟩ := hown.row
                  generalize (List.replicate ps.length 1 ++ List.replicate 70 3).length = n15 at e15
                  subst e15
                  have HON := hide_it hown
                  have HTW := hide_it htwo
                  have HDI : Hid (∀ j, (Value.slice a9 qs.length c9).ownBlock = some j → (Value.slice a15 n15 c15).ownBlock ≠ some j) := fun j e e2 => hdis j e2 e
                  have HBE := hide_it hbe
                  clear hown htwo hdis hbe
                  go_wp2_with fail
                  go_loopw [12, 84] (fun v i wr => ∃ k : Nat, k ≤ 70 ∧ i = .int .i64 (k : Int) ∧ OwnB wr w8.heap.size v (List.replicate qs.length 2 ++ List.replicate k 4) ∧ OwnB wr w7.heap.size (.slice a15 n15 c15) (List.replicate ps.length 1 ++ List.replicate 70 3) ∧ (∀ j, v.ownBlock = some j → (Value.slice a15 n15 c15).ownBlock ≠ some j) ∧ Below w7.heap.size w10 wr) (fun _ i _ => 70 - (intOf i).toNat)
                  case atStart => exact ⟨0, by omega, rfl, by simpa using HTW.out, HON.out, HDI.out, HBE.out⟩
                  case round =>
                    obtain ⟨k, hk, rfl, hown, hone, hdis, hbe⟩ := hrel
                    by_cases hlt : k < 70
                    · have hd : decide ((k : Int) < 70) = true := by simp; omega
                      have hll : (List.replicate qs.length 2 ++ List.replicate k 4).length + 1 ≤ 140737488355328 := by simp; omega
                      have hbs : w8.heap.size ≤ wr.heap.size := (by have := hbe.size; omega)
                      go_wp2_with (at_builtin; refine wpList_append_byte _ rfl _ _ rfl w8.heap.size _ _ rfl hown 4 rfl hll hbs ?_; intro v4 w4 hown4 hg4 hat4)
                      rw [more_step] at hown4
                      have hal : Below wr.heap.size wr (wr.alloc (.cells #[.int .u8 4] 5)) := (Below.refl _ _).alloc (Nat.le_refl _) _
                      have ht4 := (hone.below hal).keep hg4 (fun j e e2 => hdis j e2 e)
                      have hd4 : ∀ j, v4.ownBlock = some j → (Value.slice a15 n15 c15).ownBlock ≠ some j := fun j e e2 => by
                        rcases hat4 with h | h
                        · rw [h] at e; exact hdis j e e2
                        · rw [h] at e; cases e; have := hone.inside _ e2; omega
                      have hb4 : Below w7.heap.size w10 w4 := (hbe.alloc (by have := hbe.size; omega) _).grown hg4 (by simp; omega) (fun j e => by have := hown.ge e; omega)
                      have HKP := hide_it (And.intro ht4 (And.intro hd4 hb4))
                      go_roundw
                      case rel => exact ⟨k + 1, by omega, by go_num, hown4, HKP.out⟩
                      case measure => simp [intOf]; omega
                    · have hke : k = 70 := by omega
                      rw [hke] at hown
                      have hd : decide ((k : Int) < 70) = false := by simp; omega
                      clear hke
                      have hall := HFAa.out.under hbe (fun j e => by cases e; exact hgA7)
                      have hrs : Rst wr (some ⟨p2, 0, none⟩) (L, 0) := HU2.out wr (by have := hbe.size; omega) (fun k h1 h2 => (hbe.block k (by omega)).trans (HKa.out k h1 h2))
                      have hbww : Below w.heap.size w wr := HBWa.out.trans (hbe.mono (by omega))
                      obtain ⟨X, hX⟩ : ∃ X, X = List.replicate ps.length 1 ++ List.replicate 70 3 := ⟨_, rfl⟩
                      obtain ⟨Y, hY⟩ : ∃ Y, Y = List.replicate qs.length 2 ++ List.replicate 70 4 := ⟨_, rfl⟩
                      obtain ⟨Z, hZ⟩ : ∃ Z, Z = List.replicate G.length 7 := ⟨_, rfl⟩
                      rw [← hX] at hone
                      rw [← hY] at hown
                      rw [← hZ] at hall
                      obtain ⟨a12, c12, e12, hr12, _, _, _⟩ := hown.row
                      obtain ⟨a13, c13, e13, hr13, _, _, _⟩ := hall.row
                      obtain ⟨a11, c11, e11, hr11, _, _, _⟩ := hone.row
                      cases e11
                      subst e12
                      have hm1 := marked_any a15 c15 ps.length 1 3 X wr hr11 (by rw [hX]; simp; omega) (by omega) (by rw [hX]; exact mark_row)
                      have hm2 := marked_any a12 c12 qs.length 2 4 Y wr hr12 (by rw [hY]; simp; omega) (by omega) (by rw [hY]; exact mark_row)
                      have hZl : Z.length = G.length := by rw [hZ]; simp
                      have hrZ : RowB wr (some ⟨gA, 0, none⟩) Z := by
                        simp only [Value.slice.injEq] at e13
                        rw [e13.1]; exact hr13
                      have hm3 := marked_any (some ⟨gA, 0, none⟩) c3 G.length 7 7 Z wr hrZ (by omega) (by omega) (fun i hi => by rw [hZ, at0_rep (by omega)]; simp)
                      rw [hZl] at hm3
                      have hby3 := bytes_any (some ⟨p2, 0, none⟩) (ps.length : Int) (L, 0) wr hrs (by show L.length ≤ _; omega) (by omega) (by omega)
                      rw [rd_ok HCP.out] at hby3
                      have HBWW := hide_it hbww
                      clear e13 hX hY hZ hZl hall hone hown hr11 hr12 hr13 hrZ hrs hbww hbe hdis HKa HFAa
                      go_wp2_with fail
                      refine hm1.mono ?_
                      rintro e w' ⟨rfl, hq⟩
                      have hq2 := hq.symm
                      subst hq2
                      clear hq hm1
                      go_wp2_with fail
                      refine hm2.mono ?_
                      rintro e w' ⟨rfl, hq⟩
                      have hq2 := hq.symm
                      subst hq2
                      clear hq hm2
                      go_wp2_with fail
                      refine hm3.mono ?_
                      rintro e w' ⟨rfl, hq⟩
                      have hq2 := hq.symm
                      subst hq2
                      clear hq hm3
                      go_wp2_with fail
                      refine hby3.mono ?_
                      rintro e v8 ⟨⟨r8, rfl, ho8⟩, hr8, hg8⟩
                      obtain ⟨b8, d8, hv8, hw8, _, _, _⟩ := ho8.row
                      subst hv8
                      have hbv8 : Below w.heap.size w v8 := HBWW.out.grown hg8 HBWW.out.size (fun i e => by cases e; show w.heap.size ≤ p2; omega)
                      have he8 := equal_any b8 a d8 ca ps ps v8 hw8 (HA.out.row.below hbv8) (by unfold maxLen; omega) (by unfold maxLen; omega)
                      rw [decide_eq_true (rfl : ps = ps)] at he8
                      have HR8 := hide_it hr8
                      have HBV8 := hide_it hbv8
                      clear hby3 ho8 hr8 hg8 hw8 hbv8 HBWW
                      go_wp2_with fail
                      refine he8.mono ?_
                      rintro e w' ⟨rfl, t1, rfl⟩
                      have hbd := below_drewN (Below.refl v8.heap.size v8) t1
                      have hbv9 := below_drewN HBV8.out t1
                      have hby4 := bytes_any (some ⟨p2, 0, none⟩) (qs.length : Int) (M, 0) _ (HR8.out.below hbd) (by show M.length ≤ _; omega) (by omega) (by omega)
                      rw [rd_ok HCQ.out] at hby4
                      have HBV9 := hide_it hbv9
                      clear he8 hbd hbv9 HR8 HBV8
                      go_wp2_with fail
                      refine hby4.mono ?_
                      rintro e v9 ⟨⟨r9, rfl, ho9⟩, hr9, hg9⟩
                      obtain ⟨b9, d9, hv9, hw9, _, _, _⟩ := ho9.row
                      subst hv9
                      have hbv10 : Below w.heap.size w v9 := HBV9.out.grown hg9 HBV9.out.size (fun i e => by cases e; show w.heap.size ≤ p2; omega)
                      have he9 := equal_any b9 b d9 cb qs qs v9 hw9 (HB.out.row.below hbv10) (by unfold maxLen; omega) (by unfold maxLen; omega)
                      rw [decide_eq_true (rfl : qs = qs)] at he9
                      have HR9 := hide_it hr9
                      have HBV10 := hide_it hbv10
                      clear hby4 ho9 hr9 hg9 hw9 hbv10 HBV9
                      go_wp2_with fail
                      refine he9.mono ?_
                      rintro e w' ⟨rfl, t2, rfl⟩
                      have hen := end_st _ _ _ (HR9.out.below (below_drewN (Below.refl v9.heap.size v9) t2))
                      have HBV11 := hide_it (below_drewN HBV10.out t2)
                      clear he9 HR9 HBV10
                      go_wp2_with fail
                      refine hen.mono ?_
                      rintro e w' ⟨rfl, hq⟩
                      have hq2 := hq.symm
                      subst hq2
                      rw [show endOf (([], 0) : List Nat × Nat).1 (([], 0) : List Nat × Nat).2 = 0 from rfl]
                      clear hq hen
                      go_wp2_with fail
                      refine (fixed_all _).mono ?_
                      rintro e v12 ⟨rfl, hbl⟩
                      go_wp2_with fail
                      go_ret
                      exact ⟨rfl, HBV11.out.trans (hbl.mono HBV11.out.size)⟩

end Go.Proofs.Ytfhinodieghklab.codecOwn
