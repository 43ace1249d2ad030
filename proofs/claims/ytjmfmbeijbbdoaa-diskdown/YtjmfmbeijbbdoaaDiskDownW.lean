/- The law on an armed area, walked. -/
import Derived.Test.YtjmfmbeijbbdoaaBy8
namespace Go.Proofs.Ytjmfmbeijbbdoaa.diskDown
open Go.RowKit

/-- The first steps are done. -/
structure St1 (w W0 wr : World) (p T : Nat) : Prop where
  ex : ∃ s, Nd W0 wr p false 1 s ∧ Bnd T 1 s
/-- Armed, so many operations done. -/
structure St2 (w W0 wr : World) (p T D : Nat) (d : Int) : Prop where
  ex : ∃ s, Nd W0 wr p true 1 s ∧ Bnd T 1 s ∧ (s 0).c = D ∧ (s 0).fd = d

set_option maxRecDepth 100000 in
set_option maxHeartbeats 3200000 in
theorem walk (f : Fte) (a : Option Addr) (n c : Nat) (A : Nat → Cal) (a2 : Option Addr) (n2 c2 : Nat) (A2 : Nat → Cal) (w : World) (hf : FteOk w f) (hs : CameCal w a n A) (hs2 : CameCal w a2 n2 A2) :
    Calls Try.prog 8 #[.agg #[.int .i64 f.d, .int .i64 f.k, .int .u8 (f.t : Int)], .slice a n c, .slice a2 n2 c2] w fun e w' => e = .returned (.bool true) ∧ Below w.heap.size w w' := by
  have hft := hf.t
  clear hf
  obtain ⟨Wf, hWf⟩ : ∃ W, W = w.alloc (.cells #[.int .i64 f.d, .int .i64 f.k, .int .u8 (f.t : Int)] 54) := ⟨_, rfl⟩
  have hbf : Below w.heap.size w Wf := by rw [hWf]; exact (Below.refl _ _).alloc (Nat.le_refl _) _
  have hff : Wf.heap[w.heap.size]? = some (.cells #[.int .i64 f.d, .int .i64 f.k, .int .u8 (f.t : Int)] 54 (0, 0)) := by rw [hWf]; exact heap_alloc_new w _
  obtain ⟨W1, hW1⟩ : ∃ W, W = Wf.alloc (.cells #[.slice a n c, .slice a2 n2 c2] 22) := ⟨_, rfl⟩
  have hb1 : Below Wf.heap.size Wf W1 := by rw [hW1]; exact (Below.refl _ _).alloc (Nat.le_refl _) _
  have hq1 : W1.heap[Wf.heap.size]? = some (.cells #[.slice a n c, .slice a2 n2 c2] 22 (0, 0)) := by rw [hW1]; exact heap_alloc_new Wf _
  have hbw1 := hbf.trans (hb1.mono hbf.size)
  have hsz : Wf.heap.size = w.heap.size + 1 := by rw [hWf]; simp
  rw [hsz] at hq1
  have hva := vast_any (w.heap.size + 1) 2 2 (fun i => if i = 0 then ⟨a, n, c, A⟩ else ⟨a2, n2, c2, A2⟩) W1 (by omega) (Array.getElem?_eq_some_iff.1 hq1).1 (fun i hi => by
    have h2 : i = 0 ∨ i = 1 := by omega
    rcases h2 with rfl | rfl
    · exact cell_of_row _ _ _ _ _ _ hq1
    · exact cell_of_row _ _ _ _ _ _ hq1) (fun i hi => by
    have h2 : i = 0 ∨ i = 1 := by omega
    rcases h2 with rfl | rfl
    · exact hs.below hbw1
    · exact hs2.below hbw1)
  have httl : ttl (fun i => if i = 0 then (⟨a, n, c, A⟩ : Scr) else ⟨a2, n2, c2, A2⟩) 2 = tot A n + tot A2 n2 := by simp [ttl]
  rw [httl, hW1, hWf] at hva
  rw [hWf] at hW1
  go_enter Try.func8, Try.ntmps8
  go_wp2_with fail
  rw [← hWf] at hW1
  refine hva.mono ?_
  rintro e w2 ⟨⟨b, rfl, hT⟩, hb2⟩
  rw [← hWf, ← hW1] at hb2
  clear hva hW1 hWf httl hq1 hsz
  have hbw2 := hbw1.trans (hb2.mono hbw1.size)
  have hfl : w.heap.size < Wf.heap.size := (Array.getElem?_eq_some_iff.1 hff).1
  have hff2 : w2.heap[w.heap.size]? = some (.cells #[.int .i64 f.d, .int .i64 f.k, .int .u8 (f.t : Int)] 54 (0, 0)) := (hb2.block _ (by have := hb1.size; omega)).trans ((hb1.block _ hfl).trans hff)
  have hfl2 : w.heap.size < w2.heap.size := by have := hb1.size; have := hb2.size; omega
  clear hb1 hb2 hbf hff hbw1 hfl
  cases b with
  | true =>
    clear hT hs hs2
    go_wp2_with fail
    go_ret
    exact ⟨rfl, hbw2⟩
  | false =>
    replace hT := hide_it (hT rfl)
    have hnew := newD_any 1 w2
    go_wp2_with fail
    refine hnew.mono ?_
    intro e w3 hN
    cases hN with
    | no h1 _ _ => omega
    | ok m hm _ hM =>
      obtain rfl : m = 1 := by omega
      obtain ⟨p, rfl, hN3⟩ := hM.nd (Below.refl w2.heap.size w2)
      clear hnew hM hm
      have hfx := fixed_any w3
      go_wp2_with fail
      refine hfx.mono ?_
      rintro e w4 ⟨rfl, hb4⟩
      have hN4 := hN3.below hb4
      have hn := hs.size
      have hn2 := hs2.size
      clear hfx hN3 hb4
      go_wp2_with fail
      go_loopw [37] (fun i wr => ∃ j : Nat, j ≤ n ∧ i = .int .i64 (j : Int) ∧ Hid (St1 w w2 wr p (tot A j))) (fun i _ => n - (intOf i).toNat)
      case atStart => exact ⟨0, by omega, rfl, ⟨_, hN4, Bnd.new 1⟩⟩
      case round =>
        obtain ⟨j, hj, rfl, hR⟩ := hrel
        obtain ⟨s, hN, hB⟩ := hR.out.ex
        clear hR hN4
        have hbw := hbw2.trans (hN.bel.mono hbw2.size)
        by_cases hlt : j < n
        · obtain ⟨b, o, rfl, hbb, d1, d2, d3, d4, d5, d6⟩ := hs.row.here hlt
          have c1 := (hbw.cell (p := ⟨b, o + j * 6, none⟩) hbb).trans d1
          have c2 := (hbw.cell (p := ⟨b, o + j * 6 + 1, none⟩) hbb).trans d2
          have c3 := (hbw.cell (p := ⟨b, o + j * 6 + 2, none⟩) hbb).trans d3
          have c4 := (hbw.cell (p := ⟨b, o + j * 6 + 3, none⟩) hbb).trans d4
          have c5 := (hbw.cell (p := ⟨b, o + j * 6 + 4, none⟩) hbb).trans d5
          have c6 := (hbw.cell (p := ⟨b, o + j * 6 + 5, none⟩) hbb).trans d6
          have hlow := hs.low hlt
          have hxo := (hs.each j hlt).below hbw
          have hto : tot A (j + 1) = tot A j + (1 + (A j).p.p.length) := rfl
          have htm : tot A (j + 1) ≤ tot A n := tot_mono A hlt
          obtain ⟨x, hx⟩ : ∃ x, x = A j := ⟨_, rfl⟩
          rw [← hx] at c1 c2 c3 c4 c5 c6 hxo hto hlow
          clear d1 d2 d3 d4 d5 d6 hx
          obtain ⟨WB, hWB⟩ : ∃ W, W = wr.alloc (.cells #[.int .i64 x.k, .int .i64 0, .int .i64 x.a, .int .i64 x.b, .slice x.p.a x.p.p.length x.p.c, .slice x.fa x.fn x.fc] 45) := ⟨_, rfl⟩
          have hbB : Below wr.heap.size wr WB := by rw [hWB]; exact (Below.refl _ _).alloc (Nat.le_refl _) _
          have hNB := hN.below hbB
          have hle := hN.le
          replace hto := hide_it hto
          replace htm := hide_it htm
          by_cases hk : 0 ≤ x.k ∧ x.k ≤ 3
          · have hcl := hNB.call { x with i := 0 } ((hxo.below hbB).zero) (hlow.imp (fun e => e) fun h ad e => Nat.lt_of_lt_of_le (h ad e) hbw2.size) (tot A j) hB (by have := hT.out; have := hto.out; have := htm.out; show tot A j + 1 + x.p.p.length ≤ _; omega)
            rw [calS_op false 1 s { x with i := 0 } hk rfl (by omega), hWB] at hcl
            have hBn := hB.op (i := 0) false x.k.toNat x.a x.p.p hle
            obtain ⟨hk1, hk2⟩ := hk
            replace hBn := hide_it hBn
            clear hN hNB hB hxo hbw hlow hle hbB hs hs2 hWB
            go_wp2_with fail
            refine hcl.mono ?_
            rintro e w5 ⟨⟨v, rfl, hv⟩, hN5⟩
            obtain ⟨pa, pc, sa, sc, rfl, _⟩ := hv.ex
            clear hcl hv
            go_wp2_with fail
            go_roundw
            case rel => exact ⟨j + 1, by omega, by go_num, ⟨_, hN5, by rw [hto.out, ← Nat.add_assoc]; exact hBn.out⟩⟩
            case measure => simp [intOf]; omega
          · have hfin : St1 w w2 WB p (tot A (j + 1)) := ⟨s, hNB, hB.mono (by rw [hto.out]; omega)⟩
            replace hfin := hide_it hfin
            rw [hWB] at hfin
            clear hN hNB hB hxo hbw hlow hle hbB hs hs2 hto htm hWB
            by_cases hk1 : 0 ≤ x.k
            · have hk2 : ¬ x.k ≤ 3 := fun h => hk ⟨hk1, h⟩
              clear hk
              go_wp2_with fail
              go_roundw
              case rel => exact ⟨j + 1, by omega, by go_num, hfin.out⟩
              case measure => simp [intOf]; omega
            · clear hk
              go_wp2_with fail
              go_roundw
              case rel => exact ⟨j + 1, by omega, by go_num, hfin.out⟩
              case measure => simp [intOf]; omega
        · obtain rfl : j = n := by omega
          have g0 := (hN.bel.block _ hfl2).trans hff2
          have f1 := cell_of_row _ _ 0 _ _ _ g0
          have f2 := cell_of_row _ _ 1 _ _ _ g0
          have f3 := cell_of_row _ _ 2 _ _ _ g0
          have hbB : Below wr.heap.size wr (wr.alloc (.cells #[.int .i64 f.d, .int .i64 f.k, .int .u8 (f.t : Int)] 54)) := (Below.refl _ _).alloc (Nat.le_refl _) _
          have har := hN.arm hbB (some ⟨wr.heap.size, 0, none⟩) 1 1 (fun _ => f) (rowF_one wr f.d f.k f.t _) (.inr fun ad e => by cases e; exact .inr (Nat.le_refl _)) (fun _ _ => hft)
          have hBa := hide_it (hB.arm 1 (fun _ => f) 1)
          have ha1 : (armTo s 1 (fun _ => f) 1 0).c = 0 := rfl
          have ha2 : (armTo s 1 (fun _ => f) 1 0).fd = f.d := rfl
          obtain ⟨S, hS⟩ : ∃ S, S = armTo s 1 (fun _ => f) 1 := ⟨_, rfl⟩
          rw [← hS] at har hBa ha1 ha2
          clear hS hN hB hbB hbw g0 hs
          go_wp2_with fail
          refine har.mono ?_
          rintro e w5 ⟨rfl, hN5⟩
          have hdn := hN5.done 0 (by omega)
          rw [ha1] at hdn
          clear har f1 f2 f3
          go_wp2_with fail
          refine hdn.mono ?_
          rintro e w6 ⟨rfl, hw⟩
          have hw2 := hw.symm
          subst hw2
          clear hw hdn
          have hst := hide_it (show St2 w w2 w5 p (tot A j) 0 f.d from ⟨S, hN5, hBa.out, ha1, ha2⟩)
          clear hN5 hBa ha1 ha2
          obtain ⟨n, hnj⟩ : ∃ n, n = j := ⟨_, rfl⟩
          rw [← hnj] at hst hT
          clear hnj
          go_wp2_with fail
          go_loopw [63, 11] (fun i dn wr => ∃ j D : Nat, j ≤ n2 ∧ i = .int .i64 (j : Int) ∧ dn = .int .i64 (D : Int) ∧ Hid (St2 w w2 wr p (tot A n + tot A2 j) D f.d)) (fun i _ _ => n2 - (intOf i).toNat)
          case atStart => exact ⟨0, 0, by omega, rfl, rfl, hst.out⟩
          case round =>
            obtain ⟨j, D, hj, rfl, rfl, hR⟩ := hrel
            obtain ⟨s, hN, hB, hc, hd⟩ := hR.out.ex
            clear hR hst
            have hbw := hbw2.trans (hN.bel.mono hbw2.size)
            by_cases hlt : j < n2
            · obtain ⟨b, o, rfl, hbb, d1, d2, d3, d4, d5, d6⟩ := hs2.row.here hlt
              have c1 := (hbw.cell (p := ⟨b, o + j * 6, none⟩) hbb).trans d1
              have c2 := (hbw.cell (p := ⟨b, o + j * 6 + 1, none⟩) hbb).trans d2
              have c3 := (hbw.cell (p := ⟨b, o + j * 6 + 2, none⟩) hbb).trans d3
              have c4 := (hbw.cell (p := ⟨b, o + j * 6 + 3, none⟩) hbb).trans d4
              have c5 := (hbw.cell (p := ⟨b, o + j * 6 + 4, none⟩) hbb).trans d5
              have c6 := (hbw.cell (p := ⟨b, o + j * 6 + 5, none⟩) hbb).trans d6
              have hlow := (hs2.low hlt).imp (fun e => e) fun h ad e => Nat.lt_of_lt_of_le (h ad e) hbw2.size
              have hxo := (hs2.each j hlt).below hbw
              have hto : tot A2 (j + 1) = tot A2 j + (1 + (A2 j).p.p.length) := rfl
              have htm : tot A2 (j + 1) ≤ tot A2 n2 := tot_mono A2 hlt
              obtain ⟨x, hx⟩ : ∃ x, x = A2 j := ⟨_, rfl⟩
              rw [← hx] at c1 c2 c3 c4 c5 c6 hxo hto hlow
              clear d1 d2 d3 d4 d5 d6 hx hs2
              obtain ⟨X, hX⟩ : ∃ X, X = wr.heap.size := ⟨_, rfl⟩
              obtain ⟨WB, hWB⟩ : ∃ W, W = wr.alloc (.cells #[.int .i64 x.k, .int .i64 0, .int .i64 x.a, .int .i64 x.b, .slice x.p.a x.p.p.length x.p.c, .slice x.fa x.fn x.fc] 45) := ⟨_, rfl⟩
              have hbB : Below wr.heap.size wr WB := by rw [hWB]; exact (Below.refl _ _).alloc (Nat.le_refl _) _
              have hbx : WB.heap[X]? = some (.cells #[.int .i64 x.k, .int .i64 0, .int .i64 x.a, .int .i64 x.b, .slice x.p.a x.p.p.length x.p.c, .slice x.fa x.fn x.fc] 45 (0, 0)) := by rw [hWB, hX]; exact heap_alloc_new wr _
              have hXl : X < WB.heap.size := (Array.getElem?_eq_some_iff.1 hbx).1
              have hNB := hN.below hbB
              have hle := hN.le
              replace hto := hide_it hto
              replace htm := hide_it htm
              by_cases hk : 0 ≤ x.k ∧ x.k ≤ 3
              · obtain ⟨F, hD, hF⟩ := hNB.ex
                have hlB := hD.lt
                have hby := bytesOf_any hD 0 (by omega)
                rw [hWB] at hby
                have hxB := hxo.below hbB
                have hDB := hide_it hD
                replace hWB := hide_it hWB
                subst hX
                clear hN hxo hD hbw
                go_wp2_with fail
                refine hby.mono ?_
                rintro e w5 ⟨⟨ra, rc, rfl, ho5⟩, hb5⟩
                rw [← hWB.out] at hb5 ho5
                have hD5 := hDB.out.below hb5
                have k1 := (hb5.block wr.heap.size hXl).trans hbx
                obtain ⟨t1, t2, t3, t4, t5, t6⟩ := (show BoxC w5 wr.heap.size { x with i := 0 } from k1).cells
                have hcl := call_any hD5 { x with i := 0 } ((hxB.below hb5).zero) (hlow.imp (fun e => e) fun h ad e hFb => by have := h ad e; have := hF _ hFb; omega) _ hB (by have := hT.out; have := hto.out; have := htm.out; show tot A n + tot A2 j + 1 + x.p.p.length ≤ _; omega)
                rw [calS_op true 1 s { x with i := 0 } hk rfl (by omega)] at hcl
                obtain ⟨hk1, hk2⟩ := hk
                clear hby hDB k1 hxB hlow
                go_wp2_with fail
                refine hcl.mono ?_
                rintro e w6 ⟨⟨v, rfl, hv⟩, hwt⟩
                obtain ⟨pa, pc, sa, sc, rfl, _⟩ := hv.ex
                clear hcl hv
                have hr6 := (show RowB w5 ra (s 0).bs by obtain ⟨a9, c9, e9, r9, _⟩ := ho5.row; cases e9; exact r9).keep hwt.chg.size (fun ad e9 hl => hwt.chg.block _ hl (fun hFb => by
                  have h1 := hlB _ hFb
                  have h2 := (ho5.inside ad.block (by rw [e9]; rfl)).1
                  omega))
                have hN6 := hide_it (show Nd w2 w6 p true 1 (upd s 0 (opS true (s 0) x.k.toNat x.a x.p.p).2) from (hNB.below hb5).went hF hwt)
                have hD6 := hwt.dsk
                obtain ⟨EE, hEE⟩ : ∃ E : Int, E = (opS true (s 0) x.k.toNat x.a x.p.p).1 := ⟨_, rfl⟩
                obtain ⟨U, hU⟩ : ∃ U, U = upd s 0 (opS true (s 0) x.k.toNat x.a x.p.p).2 := ⟨_, rfl⟩
                have hBn := hide_it (hB.op (i := 0) true x.k.toNat x.a x.p.p hle)
                have hcs := opS_cases true (s 0) x.k.toNat x.a x.p.p
                rw [← hU] at hN6 hD6 hBn
                rw [← hEE] at hcs
                simp only [ans0, List.length_nil]
                rw [← hEE]
                have hbT : Below w6.heap.size w6 (w6.alloc (.cells #[.int .i64 EE, .int .i64 0, .int .i64 0, .int .i64 0, .slice pa 0 pc, .slice sa 0 sc] 47)) := (Below.refl _ _).alloc (Nat.le_refl _) _
                have hnT := heap_alloc_new w6 (.cells #[.int .i64 EE, .int .i64 0, .int .i64 0, .int .i64 0, .slice pa 0 pc, .slice sa 0 sc] 47)
                have hby2 := bytesOf_any (hD6.below hbT) 0 (by omega)
                obtain ⟨WT, hWT⟩ : ∃ W, W = w6.alloc (.cells #[.int .i64 EE, .int .i64 0, .int .i64 0, .int .i64 0, .slice pa 0 pc, .slice sa 0 sc] 47) := ⟨_, rfl⟩
                rw [← hWT] at hbT hnT
                have hlT : w6.heap.size < WT.heap.size := (Array.getElem?_eq_some_iff.1 hnT).1
                replace hWT := hide_it hWT
                replace hnT := hide_it hnT
                obtain ⟨LU, hLU⟩ : ∃ L, L = (U 0).bs.length := ⟨_, rfl⟩
                obtain ⟨KU, hKU⟩ : ∃ K, K = (U 0).k := ⟨_, rfl⟩
                obtain ⟨LS, hLS⟩ : ∃ L, L = (s 0).bs.length := ⟨_, rfl⟩
                obtain ⟨KS, hKS⟩ : ∃ K, K = (s 0).k := ⟨_, rfl⟩
                rw [← hLU, ← hKU] at hby2
                rw [← hLS, ← hKS]
                replace hLU := hide_it hLU
                replace hKU := hide_it hKU
                replace hLS := hide_it hLS
                replace hKS := hide_it hKS
                replace hU := hide_it hU
                replace hEE := hide_it hEE
                replace hcs := hide_it hcs
                have hlen7 := hide_it (hD6.room 0 (by omega)).1
                clear t1 t2 t3 t4 t5 t6 hwt hD6 hb5 ho5 hD5
                go_wp2_with fail
                refine hby2.mono ?_
                rintro e w7 ⟨⟨rb, rd, rfl, ho7⟩, hb7⟩
                rw [← hWT.out] at hb7
                have hN7 := (hN6.out.below hbT).below hb7
                have e0 := (hb7.cell (p := ⟨w6.heap.size, 0, none⟩) hlT).trans (cell_of_row _ _ 0 _ _ _ hnT.out)
                have g0 := cell_of_row _ _ 0 _ _ _ ((hN7.bel.block _ hfl2).trans hff2)
                have hr7 := (hr6.below hbT).below hb7
                have hs7 : RowB w7 rb (U 0).bs := by obtain ⟨a9, c9, e9, r9, _⟩ := ho7.row; rw [← hLU.out] at e9; cases e9; exact r9
                clear hby2 hr6 hb7 hbT hN6 ho7
                rcases hcs.out with ⟨q1, q2, q3⟩ | ⟨q1, q2, q3⟩ | ⟨q1, q2, q3, q4, _⟩
                · have hUs : U = s := by rw [hU.out, q3, upd_self]
                  have hle7 : f.d ≤ (D : Int) := by unfold down at q1; rw [hc, hd] at q1; simpa using q1
                  subst q2
                  rw [hUs] at hs7 hN7 hBn
                  obtain rfl : LU = LS := by rw [hLU.out, hLS.out, hUs]
                  obtain rfl : KU = KS := by rw [hKU.out, hKS.out, hUs]
                  have heq := equal_same ra rb LU rc rd (s 0).bs w7 hr7 hs7 hLS.out.symm (by rw [hLU.out]; exact hlen7.out)
                  replace hN7 := hide_it hN7
                  clear hcs hU hEE q1 q3 hr7 hs7 hUs hLU hKU
                  go_wp2_with fail
                  refine heq.mono ?_
                  rintro e w8 ⟨rfl, hb8⟩
                  have hN8 := hN7.out.below hb8
                  have hdn := hN8.done 0 (by omega)
                  rw [hc] at hdn
                  have hfin := hide_it (show St2 w w2 w8 p (tot A n + tot A2 (j + 1)) D f.d from ⟨s, hN8, by rw [hto.out, ← Nat.add_assoc, ← Nat.add_assoc]; exact hBn.out, hc, hd⟩)
                  clear heq hN7 hb8 hN8 hBn hc hd e0 g0
                  go_wp2_with fail
                  refine hdn.mono ?_
                  rintro e w9 ⟨rfl, hw⟩
                  have hw2 := hw.symm
                  subst hw2
                  clear hw hdn
                  go_wp2_with fail
                  go_roundw
                  case rel => exact ⟨j + 1, D, by omega, by go_num, by first | rfl | trivial, hfin.out⟩
                  case measure => simp [intOf]; omega
                · have hUs : U = s := by rw [hU.out, q3, upd_self]
                  have hle7 : (D : Int) < f.d := by unfold down at q1; rw [hc, hd] at q1; simpa using q1
                  subst q2
                  rw [hUs] at hs7 hN7 hBn
                  obtain rfl : LU = LS := by rw [hLU.out, hLS.out, hUs]
                  obtain rfl : KU = KS := by rw [hKU.out, hKS.out, hUs]
                  have heq := equal_same ra rb LU rc rd (s 0).bs w7 hr7 hs7 hLS.out.symm (by rw [hLU.out]; exact hlen7.out)
                  replace hN7 := hide_it hN7
                  clear hcs hU hEE q1 q3 hr7 hs7 hUs hLU hKU
                  go_wp2_with fail
                  refine heq.mono ?_
                  rintro e w8 ⟨rfl, hb8⟩
                  have hN8 := hN7.out.below hb8
                  have hdn := hN8.done 0 (by omega)
                  rw [hc] at hdn
                  have hfin := hide_it (show St2 w w2 w8 p (tot A n + tot A2 (j + 1)) D f.d from ⟨s, hN8, by rw [hto.out, ← Nat.add_assoc, ← Nat.add_assoc]; exact hBn.out, hc, hd⟩)
                  clear heq hN7 hb8 hN8 hBn hc hd e0 g0
                  go_wp2_with fail
                  refine hdn.mono ?_
                  rintro e w9 ⟨rfl, hw⟩
                  have hw2 := hw.symm
                  subst hw2
                  clear hw hdn
                  go_wp2_with fail
                  go_roundw
                  case rel => exact ⟨j + 1, D, by omega, by go_num, by first | rfl | trivial, hfin.out⟩
                  case measure => simp [intOf]; omega
                · have hUc : (U 0).c = D + 1 := by rw [hU.out, upd_at, q3, hc]
                  have hUd : (U 0).fd = f.d := by rw [hU.out, upd_at, q4, hd]
                  have hle7 : (D : Int) < f.d := by unfold down at q1; rw [hc, hd] at q1; simpa using q1
                  subst q2
                  have hdn := hN7.done 0 (by omega)
                  rw [hUc] at hdn
                  have hDb : D ≤ 1073741824 := by have h1 := hBn.out.cnt 0 (by omega); rw [hUc] at h1; have := hT.out; have := hto.out; have := htm.out; omega
                  have hfin := hide_it (show St2 w w2 w7 p (tot A n + tot A2 (j + 1)) (D + 1) f.d from ⟨U, hN7, by rw [hto.out, ← Nat.add_assoc, ← Nat.add_assoc]; exact hBn.out, hUc, hUd⟩)
                  clear hcs hU hEE q1 q3 q4 hr7 hs7 hLU hKU hBn hN7 hc hd hUc hUd
                  go_wp2_with fail
                  refine hdn.mono ?_
                  rintro e w9 ⟨rfl, hw⟩
                  have hw2 := hw.symm
                  subst hw2
                  clear hw hdn
                  go_wp2_with fail
                  go_roundw
                  case rel => exact ⟨j + 1, D + 1, by omega, by go_num, by go_num, hfin.out⟩
                  case measure => simp [intOf]; omega
              · have hfin : St2 w w2 WB p (tot A n + tot A2 (j + 1)) D f.d := ⟨s, hNB, hB.mono (by rw [hto.out]; omega), hc, hd⟩
                replace hfin := hide_it hfin
                rw [hWB] at hfin
                clear hN hNB hB hxo hbw hlow hle hbB hto htm hWB hbx hX hXl hc hd
                by_cases hk1 : 0 ≤ x.k
                · have hk2 : ¬ x.k ≤ 3 := fun h => hk ⟨hk1, h⟩
                  clear hk
                  go_wp2_with fail
                  go_roundw
                  case rel => exact ⟨j + 1, D, by omega, by go_num, by first | rfl | trivial, hfin.out⟩
                  case measure => simp [intOf]; omega
                · clear hk
                  go_wp2_with fail
                  go_roundw
                  case rel => exact ⟨j + 1, D, by omega, by go_num, by first | rfl | trivial, hfin.out⟩
                  case measure => simp [intOf]; omega
            · have hfin := hbw
              clear hs2 hN hB
              go_wp2_with fail
              go_ret
              exact ⟨rfl, hfin⟩

end Go.Proofs.Ytjmfmbeijbbdoaa.diskDown
