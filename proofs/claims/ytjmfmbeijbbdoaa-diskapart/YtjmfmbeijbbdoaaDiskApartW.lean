/- The law on areas that are apart, walked. -/
import Derived.Test.YtjmfmbeijbbdoaaAp8
namespace Go.Proofs.Ytjmfmbeijbbdoaa.diskApart
open Go.RowKit

set_option maxRecDepth 100000 in
set_option maxHeartbeats 6400000 in
theorem walk (I0 : Int) (_hI0 : -9223372036854775808 ≤ I0 ∧ I0 ≤ 9223372036854775807) (I1 : Int) (_hI1 : -9223372036854775808 ≤ I1 ∧ I1 ≤ 9223372036854775807) (a : Option Addr) (n c : Nat) (A : Nat → Cal) (w : World) (hs : CameCal w a n A) :
    Calls Try.prog 7 #[.int .i64 I0, .int .i64 I1, .slice a n c] w fun e w' => e = .returned (.bool true) ∧ Below w.heap.size w w' := by
  obtain ⟨W0, hW0⟩ : ∃ W0, W0 = w.alloc (.cells #[.slice a n c] 22) := ⟨_, rfl⟩
  have hb0 : Below w.heap.size w W0 := by rw [hW0]; exact (Below.refl _ _).alloc (Nat.le_refl _) _
  have hq0 : W0.heap[w.heap.size]? = some (.cells #[.slice a n c] 22 (0, 0)) := by rw [hW0]; exact heap_alloc_new w _
  have hva := vast_any w.heap.size 1 1 (fun _ => ⟨a, n, c, A⟩) W0 (by omega) (Array.getElem?_eq_some_iff.1 hq0).1 (fun i hi => by
    obtain rfl : i = 0 := by omega
    exact cell_of_row _ _ _ _ _ _ hq0) (fun i hi => hs.below hb0)
  have httl : ttl (fun _ => (⟨a, n, c, A⟩ : Scr)) 1 = tot A n := by simp [ttl]
  rw [httl] at hva
  go_enter Try.func7, Try.ntmps7
  go_wp2_with fail
  rw [← hW0]
  clear hW0 hq0 httl
  refine hva.mono ?_
  rintro e w2 ⟨⟨b, rfl, hT⟩, hb2⟩
  have hbw2 := hb0.trans (hb2.mono hb0.size)
  clear hva hb0 hb2
  cases b with
  | true =>
    clear hT hs
    go_wp2_with fail
    go_ret
    exact ⟨rfl, hbw2⟩
  | false =>
    replace hT := hide_it (hT rfl)
    obtain ⟨m0, hm0, e0⟩ := and15 I0
    obtain ⟨i, hi15, e1⟩ := and15 I1
    have e2 : IntKind.i64.wrap (1 + (m0 : Int)) = ((1 + m0 : Nat) : Int) := by rw [IntKind.wrap_i64]; omega
    obtain ⟨N, hN⟩ : ∃ N, N = 1 + m0 := ⟨_, rfl⟩
    rw [← hN] at e2
    have hN16 : 1 ≤ N ∧ N ≤ 16 := by omega
    clear hN
    have hfx := fixed_any w2
    go_wp2_with fail
    refine hfx.mono ?_
    rintro e w3 ⟨rfl, hb3⟩
    have hbw3 := hbw2.trans (hb3.mono hbw2.size)
    have hn := hs.size
    clear hfx hb3
    by_cases hiN : i < N
    · have hnew := newD_any (N : Int) w3
      go_wp2_with fail
      refine hnew.mono ?_
      intro e w4 hN4
      cases hN4 with
      | no h1 _ _ => omega
      | ok m hm _ hM =>
        obtain rfl : m = N := by omega
        obtain ⟨⟨p, rfl, hD4⟩, hb4⟩ := hM
        clear hnew hm
        have hnew2 := newD_any (m : Int) w4
        replace hD4 := hide_it hD4
        go_wp2_with fail
        refine hnew2.mono ?_
        intro e w5 hN5
        cases hN5 with
        | no h1 _ _ => omega
        | ok m2 hm _ hM =>
          obtain rfl : m2 = m := by omega
          obtain ⟨⟨q, rfl, hD5⟩, hb5⟩ := hM
          have hTw : Tw w3 w5 p q false m2 i 0 (fun b => w3.heap.size ≤ b ∧ b < w4.heap.size) (fun b => w4.heap.size ≤ b ∧ b < w5.heap.size) (fun _ => ⟨0, [], 0, 0, 0, 0, 0⟩) (fun _ => ⟨0, [], 0, 0, 0, 0, 0⟩) :=
            ⟨hD4.out.below hb5, hD5, fun b h1 h2 => by omega, fun b h1 => h1.1, fun b h1 => by have := hb4.size; omega, rfl, Bnd.new m2, Bnd.new m2, hb4.trans (hb5.mono hb4.size)⟩
          clear hnew2 hm hD4 hD5 hb4 hb5
          replace hTw := hide_it hTw
          go_wp2_with fail
          go_loopw [48] (fun r wr => ∃ j : Nat, j ≤ n ∧ r = .int .i64 (j : Int) ∧ Hid (∃ am F G s s', Tw w3 wr p q am m2 i (tot A j) F G s s')) (fun r _ => n - (intOf r).toNat)
          case atStart => exact ⟨0, by omega, rfl, ⟨_, _, _, _, _, hTw.out⟩⟩
          case round =>
            obtain ⟨j, hj, rfl, hR⟩ := hrel
            obtain ⟨am, F, G, s, s', hT1⟩ := hR.out
            clear hR hTw
            have hbw := hbw3.trans (hT1.bel.mono hbw3.size)
            by_cases hlt : j < n
            · obtain ⟨b, o, rfl, hbb, d1, d2, d3, d4, d5, d6⟩ := hs.row.here hlt
              have c1 := (hbw.cell (p := ⟨b, o + j * 6, none⟩) hbb).trans d1
              have c2 := (hbw.cell (p := ⟨b, o + j * 6 + 1, none⟩) hbb).trans d2
              have c3 := (hbw.cell (p := ⟨b, o + j * 6 + 2, none⟩) hbb).trans d3
              have c4 := (hbw.cell (p := ⟨b, o + j * 6 + 3, none⟩) hbb).trans d4
              have c5 := (hbw.cell (p := ⟨b, o + j * 6 + 4, none⟩) hbb).trans d5
              have c6 := (hbw.cell (p := ⟨b, o + j * 6 + 5, none⟩) hbb).trans d6
              have hlow := (hs.low hlt).imp (fun e => e) fun h ad e => Nat.lt_of_lt_of_le (h ad e) hbw3.size
              have hxo := (hs.each j hlt).below hbw
              have hx3 := (hs.each j hlt).below hbw3
              have hto : tot A (j + 1) = tot A j + (1 + (A j).p.p.length) := rfl
              have htm : tot A (j + 1) ≤ tot A n := tot_mono A hlt
              obtain ⟨x, hx⟩ : ∃ x, x = A j := ⟨_, rfl⟩
              rw [← hx] at c1 c2 c3 c4 c5 c6 hxo hto hlow hx3
              replace hx3 := hide_it hx3
              clear d1 d2 d3 d4 d5 d6 hx
              obtain ⟨X, hX⟩ : ∃ X, X = wr.heap.size := ⟨_, rfl⟩
              obtain ⟨WB, hWB⟩ : ∃ W, W = wr.alloc (.cells #[.int .i64 x.k, .int .i64 x.i, .int .i64 x.a, .int .i64 x.b, .slice x.p.a x.p.p.length x.p.c, .slice x.fa x.fn x.fc] 45) := ⟨_, rfl⟩
              have hbB : Below wr.heap.size wr WB := by rw [hWB]; exact (Below.refl _ _).alloc (Nat.le_refl _) _
              have hbx : BoxC WB X x := by rw [hWB, hX]; exact heap_alloc_new wr _
              have hXl : X < WB.heap.size := (Array.getElem?_eq_some_iff.1 hbx).1
              have hTB := hT1.below hbB
              have hxB := hxo.below hbB
              have hXF : ¬ F X := fun h => by have := hT1.d1.lt X h; omega
              have hcl := call_any hTB.d1 x hxB (hlow.imp (fun e => e) fun h ad e hF => by have := h ad e; have := hT1.f1 _ hF; omega) _ hTB.b1 (by have := hT.out; omega)
              have hBn := hTB.b1.call am x hTB.d1.le
              rw [show tot A j + 1 + x.p.p.length = tot A (j + 1) by omega] at hBn
              have hb2o := hide_it hTB.b2
              have hgx : ¬ G X := fun h => by have := hT1.d2.lt X h; omega
              have hb2n := hTB.b2.mono (show tot A j ≤ tot A (j + 1) by omega)
              have hce := calS_else am m2 i s x
              have hcs := calS_same am m2 i s s' x hiN hTB.same
              obtain ⟨A1, hA1⟩ : ∃ A1, A1 = (calS am m2 s x).1 := ⟨_, rfl⟩
              obtain ⟨am1, ham1⟩ : ∃ a, a = (calS am m2 s x).2.1 := ⟨_, rfl⟩
              obtain ⟨s1, hs1⟩ : ∃ a, a = (calS am m2 s x).2.2 := ⟨_, rfl⟩
              rw [← hA1, ← ham1, ← hs1] at hcl
              rw [← hs1] at hBn
              rw [← ham1, ← hs1] at hce
              rw [← hA1, ← ham1, ← hs1] at hcs
              have hp7 : x.k = 7 → am1 = true ∧ s1 = armTo s x.fn x.f m2 := fun e => by rw [ham1, hs1]; unfold calS; simp [e]
              have hp8 : x.k = 8 → am1 = false ∧ s1 = strS s m2 := fun e => by rw [ham1, hs1]; unfold calS; simp [e]
              have hp9 : x.k = 9 → A1 = { ans0 0 with n := m2, T := safeT s } := fun e => by rw [hA1]; unfold calS; simp [e]
              rw [hWB] at hcl
              replace hWB := hide_it hWB
              have hall := hide_it (And.intro hTB (And.intro hBn (And.intro hb2n (And.intro hce (And.intro hcs (And.intro hp7 (And.intro hp8 hp9)))))))
              replace hxB := hide_it hxB
              replace hlow := hide_it hlow
              replace hto := hide_it hto
              replace htm := hide_it htm
              replace hX := hide_it hX
              clear hs hxo hT1 hbw hTB hbB hBn hb2n hce hcs hp7 hp8 hp9 hA1 ham1 hs1
              go_wp2_with fail
              refine hcl.mono ?_
              rintro e w6 ⟨⟨v, rfl, hv⟩, hwt⟩
              rw [← hWB.out] at hwt hv
              obtain ⟨hTB, hBn, hb2n, hce, hcs, hp7, hp8, hp9⟩ := hall.out
              obtain ⟨D1, D2, hfar6, hf6, hbel6⟩ := hTB.first hwt
              have hf2 := hTB.f2
              have hs6 := hwt.chg.size
              have hsame := hTB.same
              have hG6 := hTB.d2.lt
              have hbx6 : BoxC w6 X x := (hwt.chg.block X hXl hXF).trans hbx
              obtain ⟨pa, pc, sa, sc, rfl, hpr, hpl, hst, hsc⟩ := hv.ex
              obtain ⟨WT, hWT⟩ : ∃ W, W = w6.alloc (.cells #[.int .i64 A1.E, .int .i64 A1.X, .int .i64 A1.Y, .int .i64 A1.Z, .slice pa A1.P.length pc, .slice sa A1.n sc] 47) := ⟨_, rfl⟩
              have hbT : Below w6.heap.size w6 WT := by rw [hWT]; exact (Below.refl _ _).alloc (Nat.le_refl _) _
              have hnT : WT.heap[w6.heap.size]? = some (.cells #[.int .i64 A1.E, .int .i64 A1.X, .int .i64 A1.Y, .int .i64 A1.Z, .slice pa A1.P.length pc, .slice sa A1.n sc] 47 (0, 0)) := by rw [hWT]; exact heap_alloc_new w6 _
              have hlT : w6.heap.size < WT.heap.size := (Array.getElem?_eq_some_iff.1 hnT).1
              have hXl6 : X < w6.heap.size := (Array.getElem?_eq_some_iff.1 hbx6).1
              have hbxT : BoxC WT X x := (hbT.block X hXl6).trans hbx6
              have hvT := hv.below hbT
              have D1T := D1.below hbT
              have D2T := D2.below hbT
              have hbelT := hbel6.trans (hbT.mono hbel6.size)
              have hxT := hide_it (hx3.out.below hbelT)
              have hx6 := hide_it (hx3.out.below hbel6)
              obtain ⟨t1, t2, t3, t4, t5, t6⟩ := hbx6.cells
              obtain ⟨z1, z2, z3, z4, z5, z6⟩ := hbxT.cells
              have hXX := hX.out
              subst hXX
              replace hWT := hide_it hWT
              replace hv := hide_it hv
              replace hvT := hide_it hvT
              replace hbx6 := hide_it hbx6
              replace hbxT := hide_it hbxT
              replace D1T := hide_it D1T
              replace D2T := hide_it D2T
              replace hnT := hide_it hnT
              replace hbelT := hide_it hbelT
              replace hce := hide_it hce
              replace hcs := hide_it hcs
              replace hp7 := hide_it hp7
              replace hp8 := hide_it hp8
              replace hp9 := hide_it hp9
              replace hst := hide_it hst
              replace hsame := hide_it hsame
              clear hcl hall hTB hwt D1 D2 hbel6 hpr hpl hbx c1 c2 c3 c4 c5 c6
              by_cases h7 : x.k = 7
              · have hmk := mk_any 43 54 _ 3 24 Try.underlying43 infoFate m2 (by omega) (by omega) WT
                rw [hWT.out] at hmk
                have hmk2 := hide_it hmk
                have hlW : WB.heap.size ≤ WT.heap.size := by have := hbT.size; omega
                have hszT : WT.heap.size = w6.heap.size + 1 := by rw [hWT.out]; simp
                have hbM : Below WT.heap.size WT (WT.alloc (.cells (madeCells #[.int .i64 0, .int .i64 0, .int .u8 0] (m2 * 3)) 54)) := (Below.refl _ _).alloc (Nat.le_refl _) _
                by_cases hif : i < x.fn
                · obtain ⟨fb, fo, hfa, hfl, hfc⟩ := hx6.out.f.row.resolve_left (by omega)
                  obtain ⟨f1, f2, f3⟩ := hfc i hif
                  have hft := (hxT.out.f.each i hif).t
                  have hrow := rowF_made WT m2 i hiN (x.f i)
                  obtain ⟨WA, hWA⟩ : ∃ W, W = WT.alloc (.cells ((((madeCells #[.int .i64 0, .int .i64 0, .int .u8 0] (m2 * 3)).setIfInBounds (i * 3) (.int .i64 (x.f i).d)).setIfInBounds (i * 3 + 1) (.int .i64 (x.f i).k)).setIfInBounds (i * 3 + 2) (.int .u8 ((x.f i).t : Int))) 54) := ⟨_, rfl⟩
                  rw [← hWA] at hrow
                  have hbA : Below WT.heap.size WT WA := by rw [hWA]; exact (Below.refl _ _).alloc (Nat.le_refl _) _
                  have hsk := arm_ok (D2T.out.below hbA) (some ⟨WT.heap.size, 0, none⟩) m2 m2 (fun j => if j = i then x.f i else ⟨0, 0, 0⟩) hrow (.inr fun ad e hG => by cases e; have h1 := hG6 _ hG; simp only at h1; omega) (fun j' _ => by
                    show (if j' = i then x.f i else (⟨0, 0, 0⟩ : Fte)).t < 256
                    split
                    · exact hft
                    · show (0 : Nat) < 256; omega)
                  rw [hfa] at z6 t6
                  have mm0 : (madeCells #[.int .i64 0, .int .i64 0, .int .u8 0] (m2 * 3))[i * 3]? = some (.int .i64 0) := made_at _ m2 3 i 0 rfl hiN (by omega)
                  have mm1 : (madeCells #[.int .i64 0, .int .i64 0, .int .u8 0] (m2 * 3))[i * 3 + 1]? = some (.int .i64 0) := made_at _ m2 3 i 1 rfl hiN (by omega)
                  have mm2 : (madeCells #[.int .i64 0, .int .i64 0, .int .u8 0] (m2 * 3))[i * 3 + 2]? = some (.int .u8 0) := made_at _ m2 3 i 2 rfl hiN (by omega)
                  clear hfc
                  rw [hWA, hszT, hWT.out] at hsk
                  replace hWA := hide_it hWA
                  clear hv hvT hst hrow
                  go_wp2_with fail
                  refine hsk.mono ?_
                  rintro e w7 ⟨rfl, hw7⟩
                  rw [← hWT.out, ← hWA.out] at hw7
                  have hbelM := hbelT.out.trans (hbA.mono hbelT.out.size)
                  obtain ⟨y1, y2, y3, y4, y5⟩ := (D1T.out.below hbA).second hfar6 hf2 hbelM hw7
                  obtain ⟨q1, q2⟩ := hp7.out h7
                  have hfin := hide_it (show ∃ am F G s s', Tw w3 w7 p q am m2 i (tot A (j + 1)) F G s s' from ⟨true, _, _, s1, _, by rw [← q1]; exact y1, y2, y3, hf6, y4, by rw [q2]; exact arm_same m2 i x.fn s s' x.f _ hiN hsame.out (by rw [if_pos hif]; exact if_pos rfl), hBn, hb2n.arm _ _ _, y5⟩)
                  clear hsk hw7 D1T D2T hbelT hce hcs hp7 hp8 hp9 hBn hb2n hfar6 hf6 q1 q2 hbT hWT y1 y2 y3 y4 y5 hmk hbM hbelM hWA mm0 mm1 mm2
                  go_wp2_with fail
                  go_roundw
                  case rel => exact ⟨j + 1, by omega, by go_num, hfin.out⟩
                  case measure => simp [intOf]; omega
                · have hrow := rowF_zero WT m2
                  obtain ⟨WM, hWM⟩ : ∃ W, W = WT.alloc (.cells (madeCells #[.int .i64 0, .int .i64 0, .int .u8 0] (m2 * 3)) 54) := ⟨_, rfl⟩
                  rw [← hWM] at hrow hbM
                  have hsk := arm_ok (D2T.out.below hbM) (some ⟨WT.heap.size, 0, none⟩) m2 m2 (fun _ => ⟨0, 0, 0⟩) hrow (.inr fun ad e hG => by cases e; have h1 := hG6 _ hG; simp only at h1; omega) (fun j' _ => by show (0 : Nat) < 256; omega)
                  rw [hWM, hszT, hWT.out] at hsk
                  replace hWM := hide_it hWM
                  clear hv hvT hst hrow
                  go_wp2_with fail
                  refine hsk.mono ?_
                  rintro e w7 ⟨rfl, hw7⟩
                  rw [← hWT.out, ← hWM.out] at hw7
                  have hbelM := hbelT.out.trans (hbM.mono hbelT.out.size)
                  obtain ⟨y1, y2, y3, y4, y5⟩ := (D1T.out.below hbM).second hfar6 hf2 hbelM hw7
                  obtain ⟨q1, q2⟩ := hp7.out h7
                  have hfin := hide_it (show ∃ am F G s s', Tw w3 w7 p q am m2 i (tot A (j + 1)) F G s s' from ⟨true, _, _, s1, _, by rw [← q1]; exact y1, y2, y3, hf6, y4, by rw [q2]; exact arm_same m2 i x.fn s s' x.f _ hiN hsame.out (by rw [if_neg hif]), hBn, hb2n.arm _ _ _, y5⟩)
                  clear hsk hw7 D1T D2T hbelT hce hcs hp7 hp8 hp9 hBn hb2n hfar6 hf6 q1 q2 hbT hWT y1 y2 y3 y4 y5 hmk hbM hbelM hWM
                  go_wp2_with fail
                  go_roundw
                  case rel => exact ⟨j + 1, by omega, by go_num, hfin.out⟩
                  case measure => simp [intOf]; omega
              · by_cases h8 : x.k = 8
                · have hsk := strike_ok D2T.out
                  rw [hWT.out] at hsk
                  clear hv hvT hst
                  go_wp2_with fail
                  refine hsk.mono ?_
                  rintro e w7 ⟨rfl, hw7⟩
                  rw [← hWT.out] at hw7
                  obtain ⟨y1, y2, y3, y4, y5⟩ := D1T.out.second hfar6 hf2 hbelT.out hw7
                  obtain ⟨q1, q2⟩ := hp8.out h8
                  have hfin := hide_it (show ∃ am F G s s', Tw w3 w7 p q am m2 i (tot A (j + 1)) F G s s' from ⟨false, _, _, s1, strS s' m2, by rw [← q1]; exact y1, y2, y3, hf6, y4, by rw [q2]; exact strike_same m2 i s s' hiN hsame.out, hBn, hb2n.strike D2T.out.le, y5⟩)
                  clear hsk hw7 D1T D2T hbelT hce hcs hp7 hp8 hp9 hBn hb2n hfar6 hf6 q1 q2 hbT hWT y1 y2 y3 y4 y5
                  go_wp2_with fail
                  go_roundw
                  case rel => exact ⟨j + 1, by omega, by go_num, hfin.out⟩
                  case measure => simp [intOf]; omega
                · by_cases h9 : x.k = 9
                  · obtain ⟨q1, q2⟩ := hce.out h7 h8 (fun h => by have := h.2.1; omega)
                    have hA := hp9.out h9
                    have hst9 := hst.out.below hbT
                    have u5 := cell_of_row _ _ 5 _ _ _ hnT.out
                    have hsc9 := hsc
                    have hn9 : A1.n = m2 := by rw [hA]
                    have hT9 : A1.T = safeT s := by rw [hA]
                    rw [hn9] at u5 hsc9
                    rw [hn9, hT9] at hst9
                    have him := fun W (hb : Below WT.heap.size WT W) => imageD_ok (D2T.out.below hb)
                    have l2 : w6.heap.size < WT.heap.size := hlT
                    obtain ⟨sb, so, hsa, _⟩ := hst9.resolve_left (by omega)
                    subst hsa
                    have hcut := hst9.cut hiN
                    have hsT : safeT s' i = safeT s i := by unfold safeT; rw [hsame.out]
                    have hlens : ∀ k, k < 1 → ((fun _ : Nat => safeT s i) k).2.length ≤ 211106232532800 := fun k _ => by
                      have h1 := (D2T.out.room i hiN).1
                      show (safeT s i).2.length ≤ _
                      rw [← hsT]
                      unfold safeT
                      simp
                      omega
                    have hw9 : IntKind.i64.wrap ((i : Int) + 1) = ((i + 1 : Nat) : Int) := by rw [IntKind.wrap_i64]; omega
                    have x1 : i + 1 ≤ sc := by omega
                    have x2 : ¬ sc = i := by omega
                    have x3 : i + 1 ≤ m2 := by omega
                    have x4 : ¬ m2 = i := by omega
                    have x5 : 0 ≤ (i : Int) + 1 := by omega
                    have x6 : (i : Int) + 1 ≤ (m2 : Int) := by omega
                    have x7 : (i : Int) + 1 ≤ (sc : Int) := by omega
                    have hn9' := hide_it hn9
                    replace hcut := hide_it hcut
                    replace hsT := hide_it hsT
                    replace hlens := hide_it hlens
                    clear hv hvT hst hA hT9 hst9 hn9
                    go_wp2_with fail
                    rw [← hWT.out]
                    refine wp_calm ?_
                    refine wp_region_held_drew (S := (fun w' => Below WT.heap.size WT w')) (by kernel_rfl) ?_ (fun hHeld => ?_)
                    · exact (Below.refl _ _).drew
                    refine take_on (i := 0) (v := ?_) rfl rfl (by kernel_rfl) (by kernel_rfl) (by kernel_rfl) (fun _ _ _ h => h) rfl ?_ hHeld ?_
                    rotate_left
                    · (intro wq hSq; have g5 := (hSq.cell (p := ⟨w6.heap.size, 5, none⟩) l2).trans u5; go_simp <;> first | with_reducible rfl | rfl)
                    simp only [Act.put, List.setIfInBounds_toArray, List.set_cons_zero, List.set_cons_succ]
                    refine take_on (i := 1) (v := ?_) rfl rfl (by kernel_rfl) (by kernel_rfl) (by kernel_rfl) (fun _ _ _ h => h) rfl ?_ hHeld ?_
                    rotate_left
                    · (intro wq hSq; have g5 := (hSq.cell (p := ⟨w6.heap.size, 5, none⟩) l2).trans u5; go_simp <;> first | with_reducible rfl | rfl)
                    simp only [Act.put, List.setIfInBounds_toArray, List.set_cons_zero, List.set_cons_succ]
                    refine take_on (i := 2) (v := ?_) rfl rfl (by kernel_rfl) (by kernel_rfl) (by kernel_rfl) (fun _ _ _ h => h) rfl ?_ hHeld ?_
                    rotate_left
                    · (intro wq hSq; have g5 := (hSq.cell (p := ⟨w6.heap.size, 5, none⟩) l2).trans u5; go_simp <;> first | with_reducible rfl | rfl)
                    simp only [Act.put, List.setIfInBounds_toArray, List.set_cons_zero, List.set_cons_succ]
                    refine take_one (i := 3) rfl (by kernel_rfl) (fun K hK => ?_)
                    go_simp
                    refine (him _ hHeld).mono ?_; rintro e y1 ⟨⟨Y, r, rfl, hSp⟩, hb1⟩; have hy1 := hHeld.trans (hb1.mono hHeld.size)
                    try go_wp2_with fail
                    refine hK.out _ _ ?_ (fun hHeld => ?_)
                    · exact hy1
                    clear hK K
                    try simp only [Act.put, List.setIfInBounds_toArray, List.set_cons_zero, List.set_cons_succ]
                    refine take_on (i := 4) (v := ?_) rfl rfl (by kernel_rfl) (by kernel_rfl) (by kernel_rfl) (fun _ _ _ h => h) rfl ?_ hHeld ?_
                    rotate_left
                    · (intro wq hSq; have g5 := (hSq.cell (p := ⟨w6.heap.size, 5, none⟩) l2).trans u5; go_simp <;> first | with_reducible rfl | rfl)
                    simp only [Act.put, List.setIfInBounds_toArray, List.set_cons_zero, List.set_cons_succ]
                    refine take_on (i := 5) (v := ?_) rfl rfl (by kernel_rfl) (by kernel_rfl) (by kernel_rfl) (fun _ _ _ h => h) rfl ?_ hHeld ?_
                    rotate_left
                    · (intro wq hSq; have g5 := (hSq.cell (p := ⟨w6.heap.size, 5, none⟩) l2).trans u5; go_simp <;> first | with_reducible rfl | rfl)
                    simp only [Act.put, List.setIfInBounds_toArray, List.set_cons_zero, List.set_cons_succ]
                    refine wpAnyH_done (by kernel_rfl) ?_ _
                    have hrm := hSp.rowT.cut hiN
                    rw [hsT.out] at hrm
                    simp only [Nat.zero_add] at hrm
                    have hsl := fun W (hb : Below y1.heap.size y1 W) => spansAlike_same (some ⟨sb, so + i * 2, none⟩) (some ⟨Y, i * 2, none⟩) 1 (sc - i) (m2 - i) (fun _ => safeT s i) _ _ W ((hcut.out.below hy1).below hb) (hrm.below hb) (by omega) hlens.out
                    have hy1' := hide_it hy1
                    clear him hSp hrm hHeld u5 hb1 hy1 hcut hlens
                    go_wp2_with fail
                    refine wp_calm ?_
                    refine wp_region_held_drew (S := (fun w' => Below y1.heap.size y1 w')) (by kernel_rfl) ?_ (fun hHeld => ?_)
                    · exact (Below.refl _ _).drew
                    refine take_on (i := 0) (v := ?_) rfl rfl (by kernel_rfl) (by kernel_rfl) (by kernel_rfl) (fun _ _ _ h => h) rfl ?_ hHeld ?_
                    rotate_left
                    · (intro wq hSq; skip; go_simp <;> first | with_reducible rfl | rfl)
                    simp only [Act.put, List.setIfInBounds_toArray, List.set_cons_zero, List.set_cons_succ]
                    refine take_on (i := 1) (v := ?_) rfl rfl (by kernel_rfl) (by kernel_rfl) (by kernel_rfl) (fun _ _ _ h => h) rfl ?_ hHeld ?_
                    rotate_left
                    · (intro wq hSq; skip; go_simp <;> first | with_reducible rfl | rfl)
                    simp only [Act.put, List.setIfInBounds_toArray, List.set_cons_zero, List.set_cons_succ]
                    refine take_on (i := 2) (v := ?_) rfl rfl (by kernel_rfl) (by kernel_rfl) (by kernel_rfl) (fun _ _ _ h => h) rfl ?_ hHeld ?_
                    rotate_left
                    · (intro wq hSq; skip; go_simp <;> first | with_reducible rfl | rfl)
                    simp only [Act.put, List.setIfInBounds_toArray, List.set_cons_zero, List.set_cons_succ]
                    refine take_on (i := 3) (v := ?_) rfl rfl (by kernel_rfl) (by kernel_rfl) (by kernel_rfl) (fun _ _ _ h => h) rfl ?_ hHeld ?_
                    rotate_left
                    · (intro wq hSq; skip; go_simp <;> first | with_reducible rfl | rfl)
                    simp only [Act.put, List.setIfInBounds_toArray, List.set_cons_zero, List.set_cons_succ]
                    refine take_on (i := 4) (v := ?_) rfl rfl (by kernel_rfl) (by kernel_rfl) (by kernel_rfl) (fun _ _ _ h => h) rfl ?_ hHeld ?_
                    rotate_left
                    · (intro wq hSq; skip; go_simp <;> first | with_reducible rfl | rfl)
                    simp only [Act.put, List.setIfInBounds_toArray, List.set_cons_zero, List.set_cons_succ]
                    refine take_on (i := 5) (v := ?_) rfl rfl (by kernel_rfl) (by kernel_rfl) (by kernel_rfl) (fun _ _ _ h => h) rfl ?_ hHeld ?_
                    rotate_left
                    · (intro wq hSq; skip; go_simp <;> first | with_reducible rfl | rfl)
                    simp only [Act.put, List.setIfInBounds_toArray, List.set_cons_zero, List.set_cons_succ]
                    refine take_on (i := 6) (v := ?_) rfl rfl (by kernel_rfl) (by kernel_rfl) (by kernel_rfl) (fun _ _ _ h => h) rfl ?_ hHeld ?_
                    rotate_left
                    · (intro wq hSq; skip; go_simp <;> first | with_reducible rfl | rfl)
                    simp only [Act.put, List.setIfInBounds_toArray, List.set_cons_zero, List.set_cons_succ]
                    refine take_on (i := 7) (v := ?_) rfl rfl (by kernel_rfl) (by kernel_rfl) (by kernel_rfl) (fun _ _ _ h => h) rfl ?_ hHeld ?_
                    rotate_left
                    · (intro wq hSq; skip; go_simp <;> first | with_reducible rfl | rfl)
                    simp only [Act.put, List.setIfInBounds_toArray, List.set_cons_zero, List.set_cons_succ]
                    refine take_on (i := 8) (v := ?_) rfl rfl (by kernel_rfl) (by kernel_rfl) (by kernel_rfl) (fun _ _ _ h => h) rfl ?_ hHeld ?_
                    rotate_left
                    · (intro wq hSq; skip; go_simp <;> first | with_reducible rfl | rfl)
                    simp only [Act.put, List.setIfInBounds_toArray, List.set_cons_zero, List.set_cons_succ]
                    refine take_on (i := 9) (v := ?_) rfl rfl (by kernel_rfl) (by kernel_rfl) (by kernel_rfl) (fun _ _ _ h => h) rfl ?_ hHeld ?_
                    rotate_left
                    · (intro wq hSq; skip; go_simp <;> first | with_reducible rfl | rfl)
                    simp only [Act.put, List.setIfInBounds_toArray, List.set_cons_zero, List.set_cons_succ]
                    refine take_on (i := 10) (v := ?_) rfl rfl (by kernel_rfl) (by kernel_rfl) (by kernel_rfl) (fun _ _ _ h => h) rfl ?_ hHeld ?_
                    rotate_left
                    · (intro wq hSq; skip; go_simp <;> first | with_reducible rfl | rfl)
                    simp only [Act.put, List.setIfInBounds_toArray, List.set_cons_zero, List.set_cons_succ]
                    refine take_on (i := 11) (v := ?_) rfl rfl (by kernel_rfl) (by kernel_rfl) (by kernel_rfl) (fun _ _ _ h => h) rfl ?_ hHeld ?_
                    rotate_left
                    · (intro wq hSq; skip; go_simp <;> first | with_reducible rfl | rfl)
                    simp only [Act.put, List.setIfInBounds_toArray, List.set_cons_zero, List.set_cons_succ]
                    refine take_on (i := 12) (v := ?_) rfl rfl (by kernel_rfl) (by kernel_rfl) (by kernel_rfl) (fun _ _ _ h => h) rfl ?_ hHeld ?_
                    rotate_left
                    · (intro wq hSq; skip; go_simp <;> first | with_reducible rfl | rfl)
                    simp only [Act.put, List.setIfInBounds_toArray, List.set_cons_zero, List.set_cons_succ]
                    refine take_on (i := 13) (v := ?_) rfl rfl (by kernel_rfl) (by kernel_rfl) (by kernel_rfl) (fun _ _ _ h => h) rfl ?_ hHeld ?_
                    rotate_left
                    · (intro wq hSq; skip; go_simp <;> first | with_reducible rfl | rfl)
                    simp only [Act.put, List.setIfInBounds_toArray, List.set_cons_zero, List.set_cons_succ]
                    refine take_on (i := 14) (v := ?_) rfl rfl (by kernel_rfl) (by kernel_rfl) (by kernel_rfl) (fun _ _ _ h => h) rfl ?_ hHeld ?_
                    rotate_left
                    · (intro wq hSq; skip; go_simp <;> first | with_reducible rfl | rfl)
                    simp only [Act.put, List.setIfInBounds_toArray, List.set_cons_zero, List.set_cons_succ]
                    refine take_on (i := 15) (v := ?_) rfl rfl (by kernel_rfl) (by kernel_rfl) (by kernel_rfl) (fun _ _ _ h => h) rfl ?_ hHeld ?_
                    rotate_left
                    · (intro wq hSq; skip; go_simp <;> first | with_reducible rfl | rfl)
                    simp only [Act.put, List.setIfInBounds_toArray, List.set_cons_zero, List.set_cons_succ]
                    refine take_on (i := 16) (v := ?_) rfl rfl (by kernel_rfl) (by kernel_rfl) (by kernel_rfl) (fun _ _ _ h => h) rfl ?_ hHeld ?_
                    rotate_left
                    · (intro wq hSq; skip; go_simp <;> first | with_reducible rfl | rfl)
                    simp only [Act.put, List.setIfInBounds_toArray, List.set_cons_zero, List.set_cons_succ]
                    refine take_on (i := 17) (v := ?_) rfl rfl (by kernel_rfl) (by kernel_rfl) (by kernel_rfl) (fun _ _ _ h => h) rfl ?_ hHeld ?_
                    rotate_left
                    · (intro wq hSq; skip; go_simp <;> first | with_reducible rfl | rfl)
                    simp only [Act.put, List.setIfInBounds_toArray, List.set_cons_zero, List.set_cons_succ]
                    refine take_on (i := 18) (v := ?_) rfl rfl (by kernel_rfl) (by kernel_rfl) (by kernel_rfl) (fun _ _ _ h => h) rfl ?_ hHeld ?_
                    rotate_left
                    · (intro wq hSq; skip; go_simp <;> first | with_reducible rfl | rfl)
                    simp only [Act.put, List.setIfInBounds_toArray, List.set_cons_zero, List.set_cons_succ]
                    refine take_on (i := 19) (v := ?_) rfl rfl (by kernel_rfl) (by kernel_rfl) (by kernel_rfl) (fun _ _ _ h => h) rfl ?_ hHeld ?_
                    rotate_left
                    · (intro wq hSq; skip; go_simp <;> first | with_reducible rfl | rfl)
                    simp only [Act.put, List.setIfInBounds_toArray, List.set_cons_zero, List.set_cons_succ]
                    refine take_on (i := 20) (v := ?_) rfl rfl (by kernel_rfl) (by kernel_rfl) (by kernel_rfl) (fun _ _ _ h => h) rfl ?_ hHeld ?_
                    rotate_left
                    · (intro wq hSq; skip; go_simp <;> first | with_reducible rfl | rfl)
                    simp only [Act.put, List.setIfInBounds_toArray, List.set_cons_zero, List.set_cons_succ]
                    refine take_one (i := 21) rfl (by kernel_rfl) (fun K hK => ?_)
                    go_simp
                    refine (hsl _ hHeld).mono ?_; rintro e y2 ⟨rfl, hb2⟩; have hy2 := hHeld.trans (hb2.mono hHeld.size)
                    try go_wp2_with fail
                    refine hK.out _ _ ?_ (fun hHeld => ?_)
                    · exact hy2
                    clear hK K
                    try simp only [Act.put, List.setIfInBounds_toArray, List.set_cons_zero, List.set_cons_succ]
                    refine take_on (i := 22) (v := ?_) rfl rfl (by kernel_rfl) (by kernel_rfl) (by kernel_rfl) (fun _ _ _ h => h) rfl ?_ hHeld ?_
                    rotate_left
                    · (intro wq hSq; skip; go_simp <;> first | with_reducible rfl | rfl)
                    simp only [Act.put, List.setIfInBounds_toArray, List.set_cons_zero, List.set_cons_succ]
                    refine take_on (i := 23) (v := ?_) rfl rfl (by kernel_rfl) (by kernel_rfl) (by kernel_rfl) (fun _ _ _ h => h) rfl ?_ hHeld ?_
                    rotate_left
                    · (intro wq hSq; skip; go_simp <;> first | with_reducible rfl | rfl)
                    simp only [Act.put, List.setIfInBounds_toArray, List.set_cons_zero, List.set_cons_succ]
                    refine wpAnyH_done (by kernel_rfl) ?_ _
                    have hbF := hy1'.out.trans (hHeld.mono hy1'.out.size)
                    have hfin := hide_it (show ∃ am F G s s', Tw w3 y2 p q am m2 i (tot A (j + 1)) F G s s' from ⟨am, _, _, s1, s', Dsk.below (by rw [← q1]; exact D1T.out) hbF, D2T.out.below hbF, hfar6, hf6, hf2, q2.trans hsame.out, hBn, hb2n, hbelT.out.trans (hbF.mono hbelT.out.size)⟩)
                    clear D1T D2T hbelT hce hcs hp7 hp8 hp9 hBn hb2n hfar6 hf6 q1 q2 hbT hWT hHeld hbF hy1' hsl hb2 hy2
                    go_wp2_with fail
                    go_roundw
                    case rel => exact ⟨j + 1, by omega, by go_num, hfin.out⟩
                    case measure => simp [intOf]; omega
                  · by_cases hk : 0 ≤ x.k ∧ x.k ≤ 6 ∧ x.i = (i : Int)
                    · have hwd : Below WT.heap.size WT WT.drew := (Below.refl _ _).drew
                      have hcl2 := call_any (D2T.out.below hwd) x (hxT.out.below hwd) (hlow.out.imp (fun e => e) fun h ad e hF => by have := h ad e; have := hf2 _ hF; omega) _ (hb2o.out) (by have := hT.out; have := htm.out; have := hto.out; omega)
                      obtain ⟨r1, r2, r3, r4⟩ := hcs.out hk
                      have hBn2 := hb2o.out.call am x D2T.out.le
                      rw [show tot A j + 1 + x.p.p.length = tot A (j + 1) by have := hto.out; omega] at hBn2
                      rw [← r1] at hcl2
                      obtain ⟨s2, hs2⟩ : ∃ a, a = (calS am m2 s' x).2.2 := ⟨_, rfl⟩
                      rw [r3, ← hs2] at hcl2
                      rw [← hs2] at hBn2 r4
                      have l1 : wr.heap.size < WT.heap.size := (Array.getElem?_eq_some_iff.1 hbxT.out).1
                      have l2 : w6.heap.size < WT.heap.size := hlT
                      have n1 : ¬ G wr.heap.size := fun h => by have h1 := hG6 _ h; have := hgx; exact absurd h hgx
                      have n2 : ¬ G w6.heap.size := fun h => by have h1 := hG6 _ h; omega
                      have u0 := cell_of_row _ _ 0 _ _ _ hnT.out
                      have u1 := cell_of_row _ _ 1 _ _ _ hnT.out
                      have u2 := cell_of_row _ _ 2 _ _ _ hnT.out
                      have u3 := cell_of_row _ _ 3 _ _ _ hnT.out
                      have u4 := cell_of_row _ _ 4 _ _ _ hnT.out
                      have u5 := cell_of_row _ _ 5 _ _ _ hnT.out
                      obtain ⟨hk1, hk2, hk3⟩ := hk
                      have hk4 : (x.i == (i : Int)) = true := by rw [hk3]; simp
                      clear hk3
                      have hlk := fun (V1 : World) (N1 : Nat) (v2 : Value) (h : TV V1 N1 v2 A1) (h' : TV V1 WB.heap.size (.agg #[.int .i64 A1.E, .int .i64 A1.X, .int .i64 A1.Y, .int .i64 A1.Z, .slice pa A1.P.length pc, .slice sa A1.n sc]) A1) => alike_same v2 _ N1 WB.heap.size A1 V1 h h'
                      have hvd := hvT.out.below hwd
                      have hcl3 : Calls Try.prog 18 #[.pointer (some ⟨q, 0, none⟩), valC x] WT.drew (fun e y => (∃ v2, e = .returned v2 ∧ TV y WT.heap.size v2 A1) ∧ (y.heap[wr.heap.size]? = WT.heap[wr.heap.size]? ∧ y.heap[w6.heap.size]? = WT.heap[w6.heap.size]?) ∧ (wr.heap.size < y.heap.size ∧ w6.heap.size < y.heap.size) ∧ TV y WB.heap.size (.agg #[.int .i64 A1.E, .int .i64 A1.X, .int .i64 A1.Y, .int .i64 A1.Z, .slice pa A1.P.length pc, .slice sa A1.n sc]) A1 ∧ Went WT.drew G q am m2 s2 y) := hcl2.mono (fun e y hq => by
                        have hch := hq.went.chg
                        have b1 := hch.block wr.heap.size (by rw [heap_drew]; exact l1) n1
                        have b2 := hch.block w6.heap.size (by rw [heap_drew]; exact l2) n2
                        have b3 := hch.size
                        rw [heap_drew] at b1 b2 b3
                        obtain ⟨v2, g1, g2⟩ := hq.ex
                        rw [heap_drew] at g2
                        exact ⟨⟨v2, g1, g2⟩, ⟨b1, b2⟩, ⟨Nat.lt_of_lt_of_le l1 b3, Nat.lt_of_lt_of_le l2 b3⟩, hvd.chg hch hG6, hq.went⟩)
                      replace hBn2 := hide_it hBn2
                      replace r4 := hide_it r4
                      replace r2 := hide_it r2
                      clear hv hvT hst hwd r1 r3 hs2 hcl2 hvd
                      go_wp2_with fail
                      rw [← hWT.out]
                      refine wp_calm ?_
                      refine wp_region_held_drew (S := (fun w' => w'.heap[wr.heap.size]? = WT.heap[wr.heap.size]? ∧ w'.heap[w6.heap.size]? = WT.heap[w6.heap.size]?)) (by kernel_rfl) ?_ (fun hHeld => ?_)
                      · exact ⟨rfl, rfl⟩
                      refine take_on (i := 0) (v := ?_) rfl rfl (by kernel_rfl) (by kernel_rfl) (by kernel_rfl) (fun _ _ _ h => h) rfl ?_ hHeld ?_
                      rotate_left
                      · (intro wq hSq; have q1 := (World.cell?_of_block (w := WT) (a := ⟨wr.heap.size, 0, none⟩) hSq.1).trans z1; have q2 := (World.cell?_of_block (w := WT) (a := ⟨wr.heap.size, 1, none⟩) hSq.1).trans z2; have q3 := (World.cell?_of_block (w := WT) (a := ⟨wr.heap.size, 2, none⟩) hSq.1).trans z3; have q4 := (World.cell?_of_block (w := WT) (a := ⟨wr.heap.size, 3, none⟩) hSq.1).trans z4; have q5 := (World.cell?_of_block (w := WT) (a := ⟨wr.heap.size, 4, none⟩) hSq.1).trans z5; have q6 := (World.cell?_of_block (w := WT) (a := ⟨wr.heap.size, 5, none⟩) hSq.1).trans z6; have g0 := (World.cell?_of_block (w := WT) (a := ⟨w6.heap.size, 0, none⟩) hSq.2).trans u0; have g1 := (World.cell?_of_block (w := WT) (a := ⟨w6.heap.size, 1, none⟩) hSq.2).trans u1; have g2 := (World.cell?_of_block (w := WT) (a := ⟨w6.heap.size, 2, none⟩) hSq.2).trans u2; have g3 := (World.cell?_of_block (w := WT) (a := ⟨w6.heap.size, 3, none⟩) hSq.2).trans u3; have g4 := (World.cell?_of_block (w := WT) (a := ⟨w6.heap.size, 4, none⟩) hSq.2).trans u4; have g5 := (World.cell?_of_block (w := WT) (a := ⟨w6.heap.size, 5, none⟩) hSq.2).trans u5; go_simp <;> first | with_reducible rfl | rfl)
                      simp only [Act.put, List.setIfInBounds_toArray, List.set_cons_zero, List.set_cons_succ]
                      refine take_on (i := 1) (v := ?_) rfl rfl (by kernel_rfl) (by kernel_rfl) (by kernel_rfl) (fun _ _ _ h => h) rfl ?_ hHeld ?_
                      rotate_left
                      · (intro wq hSq; have q1 := (World.cell?_of_block (w := WT) (a := ⟨wr.heap.size, 0, none⟩) hSq.1).trans z1; have q2 := (World.cell?_of_block (w := WT) (a := ⟨wr.heap.size, 1, none⟩) hSq.1).trans z2; have q3 := (World.cell?_of_block (w := WT) (a := ⟨wr.heap.size, 2, none⟩) hSq.1).trans z3; have q4 := (World.cell?_of_block (w := WT) (a := ⟨wr.heap.size, 3, none⟩) hSq.1).trans z4; have q5 := (World.cell?_of_block (w := WT) (a := ⟨wr.heap.size, 4, none⟩) hSq.1).trans z5; have q6 := (World.cell?_of_block (w := WT) (a := ⟨wr.heap.size, 5, none⟩) hSq.1).trans z6; have g0 := (World.cell?_of_block (w := WT) (a := ⟨w6.heap.size, 0, none⟩) hSq.2).trans u0; have g1 := (World.cell?_of_block (w := WT) (a := ⟨w6.heap.size, 1, none⟩) hSq.2).trans u1; have g2 := (World.cell?_of_block (w := WT) (a := ⟨w6.heap.size, 2, none⟩) hSq.2).trans u2; have g3 := (World.cell?_of_block (w := WT) (a := ⟨w6.heap.size, 3, none⟩) hSq.2).trans u3; have g4 := (World.cell?_of_block (w := WT) (a := ⟨w6.heap.size, 4, none⟩) hSq.2).trans u4; have g5 := (World.cell?_of_block (w := WT) (a := ⟨w6.heap.size, 5, none⟩) hSq.2).trans u5; go_simp <;> first | with_reducible rfl | rfl)
                      simp only [Act.put, List.setIfInBounds_toArray, List.set_cons_zero, List.set_cons_succ]
                      refine take_on (i := 3) (v := ?_) rfl rfl (by kernel_rfl) (by kernel_rfl) (by kernel_rfl) (fun _ _ _ h => h) rfl ?_ hHeld ?_
                      rotate_left
                      · (intro wq hSq; have q1 := (World.cell?_of_block (w := WT) (a := ⟨wr.heap.size, 0, none⟩) hSq.1).trans z1; have q2 := (World.cell?_of_block (w := WT) (a := ⟨wr.heap.size, 1, none⟩) hSq.1).trans z2; have q3 := (World.cell?_of_block (w := WT) (a := ⟨wr.heap.size, 2, none⟩) hSq.1).trans z3; have q4 := (World.cell?_of_block (w := WT) (a := ⟨wr.heap.size, 3, none⟩) hSq.1).trans z4; have q5 := (World.cell?_of_block (w := WT) (a := ⟨wr.heap.size, 4, none⟩) hSq.1).trans z5; have q6 := (World.cell?_of_block (w := WT) (a := ⟨wr.heap.size, 5, none⟩) hSq.1).trans z6; have g0 := (World.cell?_of_block (w := WT) (a := ⟨w6.heap.size, 0, none⟩) hSq.2).trans u0; have g1 := (World.cell?_of_block (w := WT) (a := ⟨w6.heap.size, 1, none⟩) hSq.2).trans u1; have g2 := (World.cell?_of_block (w := WT) (a := ⟨w6.heap.size, 2, none⟩) hSq.2).trans u2; have g3 := (World.cell?_of_block (w := WT) (a := ⟨w6.heap.size, 3, none⟩) hSq.2).trans u3; have g4 := (World.cell?_of_block (w := WT) (a := ⟨w6.heap.size, 4, none⟩) hSq.2).trans u4; have g5 := (World.cell?_of_block (w := WT) (a := ⟨w6.heap.size, 5, none⟩) hSq.2).trans u5; go_simp <;> first | with_reducible rfl | rfl)
                      simp only [Act.put, List.setIfInBounds_toArray, List.set_cons_zero, List.set_cons_succ]
                      refine take_one (i := 2) rfl (by kernel_rfl) (fun K hK => ?_)
                      go_simp
                      refine hcl3.mono ?_; rintro e y1 ⟨⟨v2, rfl, hv2⟩, hkp, hlp, hvo, hw2⟩; obtain ⟨hp1, hp2⟩ := hlp; have hvo2 := hide_it hvo; have hv22 := hide_it hv2; have hw22 := hide_it hw2; have hkq := hide_it hkp; clear hvo hv2 hw2 hkp
                      try go_wp2_with fail
                      refine hK.out _ _ ?_ (fun hHeld => ?_)
                      · exact hkq.out
                      clear hK K
                      try simp only [Act.put, List.setIfInBounds_toArray, List.set_cons_zero, List.set_cons_succ]
                      refine take_one (i := 4) rfl (by kernel_rfl) (fun K hK => ?_)
                      go_simp
                      refine (hlk _ _ v2 hv22.out hvo2.out).mono ?_; rintro e y2 ⟨rfl, hb2⟩; have hkp2 : y2.heap[wr.heap.size]? = WT.heap[wr.heap.size]? ∧ y2.heap[w6.heap.size]? = WT.heap[w6.heap.size]? := ⟨(hb2.block _ hp1).trans hHeld.1, (hb2.block _ hp2).trans hHeld.2⟩
                      try go_wp2_with fail
                      refine hK.out _ _ ?_ (fun hHeld => ?_)
                      · exact hkp2
                      clear hK K
                      try simp only [Act.put, List.setIfInBounds_toArray, List.set_cons_zero, List.set_cons_succ]
                      refine take_on (i := 5) (v := ?_) rfl rfl (by kernel_rfl) (by kernel_rfl) (by kernel_rfl) (fun _ _ _ h => h) rfl ?_ hHeld ?_
                      rotate_left
                      · (intro wq hSq; have q1 := (World.cell?_of_block (w := WT) (a := ⟨wr.heap.size, 0, none⟩) hSq.1).trans z1; have q2 := (World.cell?_of_block (w := WT) (a := ⟨wr.heap.size, 1, none⟩) hSq.1).trans z2; have q3 := (World.cell?_of_block (w := WT) (a := ⟨wr.heap.size, 2, none⟩) hSq.1).trans z3; have q4 := (World.cell?_of_block (w := WT) (a := ⟨wr.heap.size, 3, none⟩) hSq.1).trans z4; have q5 := (World.cell?_of_block (w := WT) (a := ⟨wr.heap.size, 4, none⟩) hSq.1).trans z5; have q6 := (World.cell?_of_block (w := WT) (a := ⟨wr.heap.size, 5, none⟩) hSq.1).trans z6; have g0 := (World.cell?_of_block (w := WT) (a := ⟨w6.heap.size, 0, none⟩) hSq.2).trans u0; have g1 := (World.cell?_of_block (w := WT) (a := ⟨w6.heap.size, 1, none⟩) hSq.2).trans u1; have g2 := (World.cell?_of_block (w := WT) (a := ⟨w6.heap.size, 2, none⟩) hSq.2).trans u2; have g3 := (World.cell?_of_block (w := WT) (a := ⟨w6.heap.size, 3, none⟩) hSq.2).trans u3; have g4 := (World.cell?_of_block (w := WT) (a := ⟨w6.heap.size, 4, none⟩) hSq.2).trans u4; have g5 := (World.cell?_of_block (w := WT) (a := ⟨w6.heap.size, 5, none⟩) hSq.2).trans u5; go_simp <;> first | with_reducible rfl | rfl)
                      simp only [Act.put, List.setIfInBounds_toArray, List.set_cons_zero, List.set_cons_succ]
                      refine wpAnyH_done (by kernel_rfl) ?_ _
                      have hwd : Below WT.heap.size WT WT.drew := (Below.refl _ _).drew
                      obtain ⟨y1', y2', y3', y4', y5'⟩ := (D1T.out.below hwd).second hfar6 hf2 (hbelT.out.trans (hwd.mono hbelT.out.size)) hw22.out
                      have hfin := hide_it (show ∃ am F G s s', Tw w3 y2 p q am m2 i (tot A (j + 1)) F G s s' from ⟨am, _, _, s1, s2, Dsk.below (by rw [← r2.out]; exact y1') hb2, y2'.below hb2, y3', hf6, y4', r4.out, hBn, hBn2.out, y5'.trans (hb2.mono y5'.size)⟩)
                      clear hcl3 hw22 D1T D2T hbelT hce hcs hp7 hp8 hp9 hBn hb2n hfar6 hf6 hbT hWT y1' y2' y3' y4' y5' hv22 hvo2 hlk hHeld hkq hkp2 u0 u1 u2 u3 u4 u5 hb2 hBn2 r4 r2
                      go_wp2_with fail
                      go_roundw
                      case rel => exact ⟨j + 1, by omega, by go_num, hfin.out⟩
                      case measure => simp [intOf]; omega
                    · obtain ⟨q1, q2⟩ := hce.out h7 h8 hk
                      have hfin := hide_it (show ∃ am F G s s', Tw w3 WT p q am m2 i (tot A (j + 1)) F G s s' from ⟨am, _, _, s1, s', by rw [← q1]; exact D1T.out, D2T.out, hfar6, hf6, hf2, q2.trans hsame.out, hBn, hb2n, hbelT.out⟩)
                      rw [hWT.out] at hfin
                      clear hv hvT D1T D2T hbelT hce hcs hp7 hp8 hp9 hBn hb2n hfar6 hf6 q1 q2 hst hbT hWT
                      by_cases hk1 : 0 ≤ x.k
                      · by_cases hk2 : x.k ≤ 6
                        · have hk3 : ¬ x.i = (i : Int) := fun h => hk ⟨hk1, hk2, h⟩
                          clear hk
                          go_wp2_with fail
                          go_roundw
                          case rel => exact ⟨j + 1, by omega, by go_num, hfin.out⟩
                          case measure => simp [intOf]; omega
                        · clear hk
                          go_wp2_with fail
                          go_roundw
                          case rel => exact ⟨j + 1, by omega, by go_num, hfin.out⟩
                          case measure => simp [intOf]; omega
                      · clear hk
                        go_wp2_with fail
                        go_roundw
                        case rel => exact ⟨j + 1, by omega, by go_num, hfin.out⟩
                        case measure => simp [intOf]; omega
            · clear hs
              go_wp2_with fail
              go_ret
              exact ⟨rfl, hbw⟩
    · clear hs
      go_wp2_with fail
      go_ret
      exact ⟨rfl, hbw3⟩

end Go.Proofs.Ytjmfmbeijbbdoaa.diskApart
