/- The law on what is there behind a Strike, walked. -/
import Derived.Test.YtjmfmbeijbbdoabBy8
namespace Go.Proofs.Ytjmfmbeijbbdoab.diskStruck
open Go.RowKit

/-- The first steps are done. -/
structure St1 (w W0 wr : World) (p T : Nat) : Prop where
  ex : ∃ s, Nd W0 wr p false 1 s ∧ Bnd T 1 s ∧ (s 0).fk = 0 ∧ (s 0).bs.length ≤ T ∧ (s 0).B + (s 0).bs.length ≤ T

set_option maxRecDepth 100000 in
set_option maxHeartbeats 6400000 in
theorem walk (a : Option Addr) (n c : Nat) (A : Nat → Cal) (f : Fte) (a2 : Option Addr) (c2 : Nat) (zs : List Nat) (ar : Bool) (w : World) (hs : CameCal w a n A) (hf : FteOk w f) (hz : Came8 w a2 c2 zs) :
    Calls Try.prog 3 #[.slice a n c, .agg #[.int .i64 f.d, .int .i64 f.k, .int .u8 (f.t : Int)], .slice a2 zs.length c2, .bool ar] w fun e w' => e = .returned (.bool true) ∧ Below w.heap.size w w' := by
  have hft := hf.t
  clear hf
  obtain ⟨Wf, hWf⟩ : ∃ W, W = w.alloc (.cells #[.int .i64 f.d, .int .i64 f.k, .int .u8 (f.t : Int)] 24) := ⟨_, rfl⟩
  have hbf : Below w.heap.size w Wf := by rw [hWf]; exact (Below.refl _ _).alloc (Nat.le_refl _) _
  have hff : Wf.heap[w.heap.size]? = some (.cells #[.int .i64 f.d, .int .i64 f.k, .int .u8 (f.t : Int)] 24 (0, 0)) := by rw [hWf]; exact heap_alloc_new w _
  obtain ⟨W1, hW1⟩ : ∃ W, W = Wf.alloc (.cells #[.slice a n c] 22) := ⟨_, rfl⟩
  have hb1 : Below Wf.heap.size Wf W1 := by rw [hW1]; exact (Below.refl _ _).alloc (Nat.le_refl _) _
  have hq1 : W1.heap[Wf.heap.size]? = some (.cells #[.slice a n c] 22 (0, 0)) := by rw [hW1]; exact heap_alloc_new Wf _
  have hbw1 := hbf.trans (hb1.mono hbf.size)
  have hsz : Wf.heap.size = w.heap.size + 1 := by rw [hWf]; simp
  rw [hsz] at hq1
  have hva := vast_any (w.heap.size + 1) 1 1 (fun _ => ⟨a, n, c, A⟩) W1 (by omega) (Array.getElem?_eq_some_iff.1 hq1).1 (fun i hi => by
    obtain rfl : i = 0 := by omega
    exact cell_of_row _ _ _ _ _ _ hq1) (fun i hi => hs.below hbw1)
  have httl : ttl (fun _ => (⟨a, n, c, A⟩ : Scr)) 1 = tot A n := by simp [ttl]
  rw [httl, hW1, hWf] at hva
  rw [hWf] at hW1
  go_enter Try.func3, Try.ntmps3
  go_wp2_with fail
  rw [← hWf] at hW1
  refine hva.mono ?_
  rintro e w2 ⟨⟨b, rfl, hT⟩, hb2⟩
  rw [← hWf, ← hW1] at hb2
  clear hva hW1 hWf httl hq1 hsz
  have hbw2 := hbw1.trans (hb2.mono hbw1.size)
  have hfl : w.heap.size < Wf.heap.size := (Array.getElem?_eq_some_iff.1 hff).1
  have hff2 : w2.heap[w.heap.size]? = some (.cells #[.int .i64 f.d, .int .i64 f.k, .int .u8 (f.t : Int)] 24 (0, 0)) := (hb2.block _ (by have := hb1.size; omega)).trans ((hb1.block _ hfl).trans hff)
  have hfl2 : w.heap.size < w2.heap.size := by have := hb1.size; have := hb2.size; omega
  clear hb1 hb2 hbf hff hbw1 hfl
  cases b with
  | true =>
    clear hT hs hz
    go_wp2_with fail
    go_ret
    exact ⟨rfl, hbw2⟩
  | false =>
    replace hT := hide_it (hT rfl)
    have hnew := newD_any 1 w2
    go_wp2_with fail
    refine hnew.mono ?_
    intro e w3 hN
    cases hN with
    | no h1 _ _ => omega
    | ok m hm _ hM =>
      obtain rfl : m = 1 := by omega
      obtain ⟨p, rfl, hN3⟩ := hM.nd (Below.refl w2.heap.size w2)
      clear hnew hM hm
      have hfx := fixed_any w3
      go_wp2_with fail
      refine hfx.mono ?_
      rintro e w4 ⟨rfl, hb4⟩
      have hN4 := hN3.below hb4
      have hn := hs.size
      clear hfx hN3 hb4
      go_wp2_with fail
      go_loopw [37] (fun i wr => ∃ j : Nat, j ≤ n ∧ i = .int .i64 (j : Int) ∧ Hid (St1 w w2 wr p (tot A j))) (fun i _ => n - (intOf i).toNat)
      case atStart => exact ⟨0, by omega, rfl, ⟨_, hN4, Bnd.new 1, rfl, Nat.le_refl _, Nat.le_refl _⟩⟩
      case round =>
        obtain ⟨j, hj, rfl, hR⟩ := hrel
        obtain ⟨s, hN, hB, hfk, hsm1, hsm2⟩ := hR.out.ex
        clear hR hN4
        have hbw := hbw2.trans (hN.bel.mono hbw2.size)
        by_cases hlt : j < n
        · obtain ⟨b, o, rfl, hbb, d1, d2, d3, d4, d5, d6⟩ := hs.row.here hlt
          have c1 := (hbw.cell (p := ⟨b, o + j * 6, none⟩) hbb).trans d1
          have c2 := (hbw.cell (p := ⟨b, o + j * 6 + 1, none⟩) hbb).trans d2
          have c3 := (hbw.cell (p := ⟨b, o + j * 6 + 2, none⟩) hbb).trans d3
          have c4 := (hbw.cell (p := ⟨b, o + j * 6 + 3, none⟩) hbb).trans d4
          have c5 := (hbw.cell (p := ⟨b, o + j * 6 + 4, none⟩) hbb).trans d5
          have c6 := (hbw.cell (p := ⟨b, o + j * 6 + 5, none⟩) hbb).trans d6
          have hlow := hs.low hlt
          have hxo := (hs.each j hlt).below hbw
          have hto : tot A (j + 1) = tot A j + (1 + (A j).p.p.length) := rfl
          have htm : tot A (j + 1) ≤ tot A n := tot_mono A hlt
          obtain ⟨x, hx⟩ : ∃ x, x = A j := ⟨_, rfl⟩
          rw [← hx] at c1 c2 c3 c4 c5 c6 hxo hto hlow
          clear d1 d2 d3 d4 d5 d6 hx
          obtain ⟨WB, hWB⟩ : ∃ W, W = wr.alloc (.cells #[.int .i64 x.k, .int .i64 0, .int .i64 x.a, .int .i64 x.b, .slice x.p.a x.p.p.length x.p.c, .slice x.fa x.fn x.fc] 34) := ⟨_, rfl⟩
          have hbB : Below wr.heap.size wr WB := by rw [hWB]; exact (Below.refl _ _).alloc (Nat.le_refl _) _
          have hNB := hN.below hbB
          have hle := hN.le
          replace hto := hide_it hto
          replace htm := hide_it htm
          by_cases hk : 0 ≤ x.k ∧ x.k ≤ 3
          · have hcl := hNB.call { x with i := 0 } ((hxo.below hbB).zero) (hlow.imp (fun e => e) fun h ad e => Nat.lt_of_lt_of_le (h ad e) hbw2.size) (tot A j) hB (by have := hT.out; have := hto.out; have := htm.out; show tot A j + 1 + x.p.p.length ≤ _; omega)
            rw [calS_op false 1 s { x with i := 0 } hk rfl (by omega), hWB] at hcl
            have hBn := hB.op (i := 0) false x.k.toNat x.a x.p.p hle
            have hfk2 : (upd s 0 (opS false (s 0) x.k.toNat x.a x.p.p).2 0).fk = 0 := by
              rw [upd_at]
              rcases opS_cases false (s 0) x.k.toNat x.a x.p.p with ⟨_, _, q⟩ | ⟨_, _, q⟩ | ⟨_, _, _, _, q, _⟩
              · rw [q]; exact hfk
              · rw [q]; exact hfk
              · rw [q]; exact hfk
            replace hfk2 := hide_it hfk2
            have hsm := hide_it (opS_small false (s 0) x.k.toNat x.a x.p.p (hle 0 (by omega)))
            have hsm3 := hide_it (And.intro hsm1 hsm2)
            clear hsm1 hsm2
            obtain ⟨hk1, hk2⟩ := hk
            replace hBn := hide_it hBn
            clear hN hNB hB hxo hbw hlow hle hbB hs hfk hWB
            go_wp2_with fail
            refine hcl.mono ?_
            rintro e w5 ⟨⟨v, rfl, hv⟩, hN5⟩
            obtain ⟨pa, pc, sa, sc, rfl, _⟩ := hv.ex
            clear hcl hv
            go_wp2_with fail
            go_roundw
            case rel => exact ⟨j + 1, by omega, by go_num, ⟨_, hN5, by rw [hto.out, ← Nat.add_assoc]; exact hBn.out, hfk2.out, by rw [upd_at, hto.out]; have := hsm.out; have := hsm3.out; omega, by rw [upd_at, hto.out]; have := hsm.out; have := hsm3.out; omega⟩⟩
            case measure => simp [intOf]; omega
          · have hfin : St1 w w2 WB p (tot A (j + 1)) := ⟨s, hNB, hB.mono (by rw [hto.out]; omega), hfk, by rw [hto.out]; omega, by rw [hto.out]; omega⟩
            replace hfin := hide_it hfin
            rw [hWB] at hfin
            clear hN hNB hB hxo hbw hlow hle hbB hs hfk hto htm hWB hsm1 hsm2
            by_cases hk1 : 0 ≤ x.k
            · have hk2 : ¬ x.k ≤ 3 := fun h => hk ⟨hk1, h⟩
              clear hk
              go_wp2_with fail
              go_roundw
              case rel => exact ⟨j + 1, by omega, by go_num, hfin.out⟩
              case measure => simp [intOf]; omega
            · clear hk
              go_wp2_with fail
              go_roundw
              case rel => exact ⟨j + 1, by omega, by go_num, hfin.out⟩
              case measure => simp [intOf]; omega
        · obtain rfl : j = n := by omega
          have g0 := (hN.bel.block _ hfl2).trans hff2
          have f1 := cell_of_row _ _ 0 _ _ _ g0
          have f2 := cell_of_row _ _ 1 _ _ _ g0
          have f3 := cell_of_row _ _ 2 _ _ _ g0
          have fz := fun o => frozen_of_row _ _ o _ _ g0
          have hfw : w.heap.size < wr.heap.size := by have := hN.bel.size; omega
          cases ar with
          | true =>
            have hp := hN.poke hff2 (show w.heap.size < w2.heap.size from hfl2) 0 (.int .i64 1)
            obtain ⟨W3, hW3⟩ : ∃ W, W = w2.setCell ⟨w.heap.size, 0, none⟩ (.int .i64 1) := ⟨_, rfl⟩
            have hbox : W3.heap[w.heap.size]? = some (.cells #[.int .i64 1, .int .i64 f.k, .int .u8 (f.t : Int)] 24 (0, 0)) := by rw [hW3]; exact heap_setCell_same w2 _ 0 _ _ _ hff2
            have hflW : w.heap.size < W3.heap.size := (Array.getElem?_eq_some_iff.1 hbox).1
            have hbW3 : Below w.heap.size w W3 := by rw [hW3]; exact hbw2.setCell (Nat.le_refl _) _
            rw [← hW3] at hp
            obtain ⟨wq, hwq⟩ : ∃ W, W = wr.setCell ⟨w.heap.size, 0, none⟩ (.int .i64 1) := ⟨_, rfl⟩
            rw [← hwq] at hp
            have hbB : Below wq.heap.size wq (wq.alloc (.cells #[.int .i64 1, .int .i64 f.k, .int .u8 (f.t : Int)] 24)) := (Below.refl _ _).alloc (Nat.le_refl _) _
            have har := hp.arm hbB (some ⟨wq.heap.size, 0, none⟩) 1 1 (fun _ => ⟨1, f.k, f.t⟩) (rowF_one wq 1 f.k f.t _) (.inr fun ad e => by cases e; exact .inr (Nat.le_refl _)) (fun _ _ => hft)
            have hBS := hB.arm 1 (fun _ => (⟨1, f.k, f.t⟩ : Fte)) 1
            have hsS1 : (armTo s 1 (fun _ => (⟨1, f.k, f.t⟩ : Fte)) 1 0).bs.length ≤ tot A j := hsm1
            have hsS2 : (armTo s 1 (fun _ => (⟨1, f.k, f.t⟩ : Fte)) 1 0).B + (armTo s 1 (fun _ => (⟨1, f.k, f.t⟩ : Fte)) 1 0).bs.length ≤ tot A j := hsm2
            clear hsm1 hsm2
            have hdn : down true (armTo s 1 (fun _ => (⟨1, f.k, f.t⟩ : Fte)) 1 0) = false := rfl
            have hK : (armTo s 1 (fun _ => (⟨1, f.k, f.t⟩ : Fte)) 1 0).fk = f.k := rfl
            have hTt : f.k.toNat ≠ 0 → (armTo s 1 (fun _ => (⟨1, f.k, f.t⟩ : Fte)) 1 0).ft = f.t := fun _ => rfl
            obtain ⟨S, hS⟩ : ∃ S, S = armTo s 1 (fun _ => (⟨1, f.k, f.t⟩ : Fte)) 1 := ⟨_, rfl⟩
            rw [← hS] at har hBS hdn hK hTt hsS1 hsS2
            have hqs : wq.heap.size = wr.heap.size := by rw [hwq]; simp
            rw [hqs, hwq] at har
            have hzz := hwq
            replace hwq := hide_it hwq
            clear hS hN hB hbB hbw g0 hs hp hW3 hzz hfk hqs
            go_wp2_with fail
            refine har.mono ?_
            rintro e w4 ⟨rfl, hN4⟩
            clear har f1 f2 f3 fz hwq
            have hbw4 := hbW3.trans (hN4.bel.mono hbW3.size)
            obtain ⟨x0, hx0⟩ : ∃ x, x = S 0 := ⟨_, rfl⟩
            have hap := hN4.append 0 (by omega) 0 a2 c2 zs (hz.row.below hbw4) hz.all hz.none (by have := hz.size; have := hT.out; omega) (by have := hz.size; have := hT.out; omega) (by have h1 := hBS.cnt 0 (by omega); have := hT.out; omega)
            have hSle := hN4.le 0 (by omega)
            have hSlen := hsS1
            have hop : opS true (S 0) 0 0 zs = (0, { S 0 with bs := (S 0).bs ++ zs, c := (S 0).c + 1 }) := by unfold opS; rw [if_neg (by rw [hdn]; simp)]; rfl
            rw [hop] at hap
            rw [← hx0] at hap hSle hSlen hK hTt
            clear hop hdn hBS hsS1 hsS2
            obtain ⟨B0, bs0, k, fd0, fk0, ft0, c0⟩ := x0
            simp only at hap hSle hSlen hK hTt
            clear hN4
            go_wp2_with fail
            refine hap.mono ?_
            rintro e w5 ⟨rfl, hN5⟩
            have hlz := hz.size
            obtain ⟨bs, hbs⟩ : ∃ b, b = bs0 ++ zs := ⟨_, rfl⟩
            have hkl : k ≤ bs.length := by rw [hbs, List.length_append]; omega
            have hll : bs.length ≤ 1073741824 + 140737488351232 := by rw [hbs, List.length_append]; have := hT.out; omega
            rw [← hbs] at hN5
            clear hap hbs hz hlz hSle hSlen
            obtain ⟨F5, hD5, hF5⟩ := hN5.ex
            have hby := bytesOf_any hD5 0 (by omega)
            rw [upd_at] at hby
            simp only at hby
            have hro := (hD5.room 0 (by omega))
            rw [upd_at] at hro
            obtain ⟨hlen, _, h8⟩ := hro
            simp only at hlen h8
            have hN5' := hide_it hN5
            have hD5' := hide_it hD5
            have hF5l := hD5.lt
            clear hD5 hN5
            go_wp2_with fail
            refine hby.mono ?_
            rintro e w6 ⟨⟨ra, rc, rfl, ho6⟩, hb6⟩
            have hN6 := hN5'.out.below hb6
            have hD6 := hide_it (hD5'.out.below hb6)
            have hs56 := hb6.size
            have m1 : w6.cell? ⟨w.heap.size, 1, none⟩ = some (.int .i64 (f.k)) := cell_of_row _ _ 1 _ _ _ ((hN6.bel.block _ hflW).trans hbox)
            have m2 : w6.cell? ⟨w.heap.size, 2, none⟩ = some (.int .u8 (f.t : Int)) := cell_of_row _ _ 2 _ _ _ ((hN6.bel.block _ hflW).trans hbox)
            obtain ⟨cc, hcc⟩ : ∃ cc, cc = min (f.k).toNat (bs.length - k) := ⟨_, rfl⟩
            obtain ⟨L, hL⟩ : ∃ L, L = bs.length - k := ⟨_, rfl⟩
            have hw1 : IntKind.i64.wrap ((bs.length : Int) - (k : Int)) = (L : Int) := by rw [IntKind.wrap_i64]; omega
            have hkc : k + cc ≤ bs.length := by omega
            have hw2 : IntKind.i64.wrap ((k : Int) + (cc : Int)) = ((k + cc : Nat) : Int) := by rw [IntKind.wrap_i64]; omega
            obtain ⟨M, hM⟩ : ∃ M : Int, (if f.k < 0 then 0 else f.k) = M := ⟨_, rfl⟩
            have hif : (if (L : Int) < M then (L : Int) else M) = (cc : Int) := by
              rw [hcc, ← hL, ← hM]
              by_cases h0 : f.k < 0
              · rw [if_pos h0, if_neg (by omega)]; omega
              · rw [if_neg h0]; split <;> omega
            obtain ⟨SS, hSS⟩ : ∃ SS, SS = k + cc := ⟨_, rfl⟩
            rw [← hSS] at hw2
            obtain ⟨r1, r2, r3, hrow, hcap, _, hnil⟩ := ho6.row
            cases r3
            have hrt : RowB w6 ra (bs.take SS) := by
              have h9 := (OwB.take (m := SS) ho6 (by omega)).row
              rw [List.length_take, Nat.min_eq_left (by omega)] at h9
              obtain ⟨q1, q2, q3, q4, _⟩ := h9
              cases q3
              exact q4
            have hlt : (bs.take SS).length = SS := by rw [List.length_take, Nat.min_eq_left (by omega)]
            have hSc : SS ≤ rc := by omega
            have hnil2 : ra = none → (bs.take SS).length = 0 ∧ rc = 0 := fun e => ⟨by have := (hnil e).1; omega, (hnil e).2⟩
            obtain ⟨TS, hTS⟩ : ∃ t, t = bs.take SS := ⟨_, rfl⟩
            rw [← hTS] at hrt hlt hnil2
            have h8t : All8 TS := by rw [hTS]; exact fun z hz' => h8 z (List.mem_of_mem_take hz')
            have hcr : crashB bs k cc f.t = if 0 < cc then tear TS f.t else TS := by unfold crashB; rw [← hSS, hTS]
            replace hTS := hide_it hTS
            replace hcr := hide_it hcr
            replace hcc := hide_it hcc
            replace hSS := hide_it hSS
            replace hN6 := hide_it hN6
            replace hK := hide_it hK
            replace hTt := hide_it hTt
            replace hL := hide_it hL
            have hll2 := hide_it hll
            have hlen2 := hide_it hlen
            have hkc2 := hide_it hkc
            obtain ⟨bl, hbl⟩ : ∃ b, b = bs.length := ⟨_, rfl⟩
            rw [← hbl] at hw1
            rw [← hbl]
            replace hbl := hide_it hbl
            clear hby hN5' hD5' ho6 hrow hnil hcap hll hlen hkc hb6 h8 hkl
            have hbe : Below w6.heap.size w6 (w6.alloc (.cells #[] 5)) := (Below.refl _ _).alloc (Nat.le_refl _) _
            have hre := hrt.below hbe
            have hSl := hide_it hSS.out
            subst hlt
            go_wp2_with (at_builtin; refine wpList_appendB _ rfl _ _ rfl w6.heap.size _ [] rfl (owb_empty w6) ra rc TS rfl hre hnil2 (by simp; have := hkc2.out; have := hlen2.out; have := hSl.out; omega) (by simp) ?_; intro v7 w7 hown7 hg7 hat7)
            · have hc0 : 0 < cc := by omega
              have hTS0 : 0 < TS.length := by have := hSl.out; omega
              have hb67 : Below w6.heap.size w6 w7 := hbe.grown hg7 hbe.size (fun j e => by cases e; exact Nat.le_refl _)
              rw [List.nil_append] at hown7
              obtain ⟨va, vc, hv7, hrow7, _⟩ := hown7.row
              obtain ⟨g, o2, rfl, hgl, hcell⟩ := hrow7.here (i := 0) hTS0
              subst hv7
              have hgb : w6.heap.size ≤ g := (hown7.inside g rfl).1
              obtain ⟨J, hJ⟩ : ∃ J, J = TS.length - 1 := ⟨_, rfl⟩
              have hJl : J < TS.length := by omega
              have hci := hcell J hJl
              have hb8 : at0 TS J < 256 := h8t _ (at0_mem hJl)
              have hx := u8_xor_nat _ f.t hb8 hft
              have hx8 : at0 TS J ^^^ f.t < 256 := Nat.xor_lt_two_pow (n := 8) hb8 hft
              have hfz : w7.frozen? ⟨g, o2 + J, none⟩ = false := OwnS.thaw hown7 _
              have hO7 := OwB.set hown7 (i := J) hJl (at0 TS J ^^^ f.t)
              have hw3 : IntKind.i64.wrap ((TS.length : Int) - 1) = (J : Int) := by have := hkc2.out; have := hlen2.out; have := hSl.out; rw [IntKind.wrap_i64]; omega
              have htr : crashB bs k cc f.t = TS.set J (at0 TS J ^^^ f.t) := by rw [hcr.out, if_pos hc0]; unfold tear; rw [hJ]
              obtain ⟨WT, hWT⟩ : ∃ t, t = TS.set J (at0 TS J ^^^ f.t) := ⟨_, rfl⟩
              rw [← hWT] at htr hO7
              have hWL2 : TS.length = WT.length := by rw [hWT]; simp
              obtain ⟨XX, hXX⟩ : ∃ x, x = at0 TS J := ⟨_, rfl⟩
              rw [← hXX] at hci hx hO7
              have m3 : w7.cell? ⟨w.heap.size, 2, none⟩ = some (.int .u8 (f.t : Int)) := (hb67.cell (p := ⟨w.heap.size, 2, none⟩) (show w.heap.size < w6.heap.size by have := hN6.out.bel.size; omega)).trans m2
              have hgw : w.heap.size ≠ g := by have := hN6.out.bel.size; omega
              have hD7 := hide_it (hD6.out.below hb67)
              have hbw7 := hide_it (hbW3.trans ((hN6.out.below hb67).bel.mono hbW3.size))
              have hWTe : Hid (crashB bs k cc ft0 = WT) := by unfold Hid; rw [hTt.out (fun h0 => by have h1 := hcc.out; rw [h0, Nat.zero_min] at h1; omega)]; exact htr
              replace hO7 := hide_it hO7
              replace hWL2 := hide_it hWL2
              have hgw2 : w.heap.size ≤ g := by have := hN6.out.bel.size; omega
              clear hown7 hg7 hat7 hcell hrow7 hXX hWT htr hJ hb8 hD6 hre hrt hnil2 hbe m1 m2 hN6 h8t
              go_wp2_with fail
              refine wp_region_held_drew (S := (fun w' => w'.heap[w.heap.size]? = w7.heap[w.heap.size]?)) (by kernel_rfl) ?_ (fun hHeld => ?_)
              · rfl
              refine take_on (i := 0) (v := ?_) rfl rfl (by kernel_rfl) (by kernel_rfl) (by kernel_rfl) (fun _ _ _ h => h) rfl ?_ hHeld ?_
              rotate_left
              · (intro wq hSq; have q1 := (World.cell?_of_block (w := w7) (a := ⟨w.heap.size, 2, none⟩) hSq).trans m3; go_simp <;> first | with_reducible rfl | rfl)
              simp only [Act.put, List.setIfInBounds_toArray, List.set_cons_zero, List.set_cons_succ]
              refine take_on (i := 1) (v := ?_) rfl rfl (by kernel_rfl) (by kernel_rfl) (by kernel_rfl) (fun _ _ _ h => h) rfl ?_ hHeld ?_
              rotate_left
              · (intro wq hSq; have q1 := (World.cell?_of_block (w := w7) (a := ⟨w.heap.size, 2, none⟩) hSq).trans m3; go_simp <;> first | with_reducible rfl | rfl)
              simp only [Act.put, List.setIfInBounds_toArray, List.set_cons_zero, List.set_cons_succ]
              refine take_on (i := 2) (v := ?_) rfl rfl (by kernel_rfl) (by kernel_rfl) (by kernel_rfl) (fun _ _ _ h => h) rfl ?_ hHeld ?_
              rotate_left
              · (intro wq hSq; have q1 := (World.cell?_of_block (w := w7) (a := ⟨w.heap.size, 2, none⟩) hSq).trans m3; go_simp <;> first | with_reducible rfl | rfl)
              simp only [Act.put, List.setIfInBounds_toArray, List.set_cons_zero, List.set_cons_succ]
              refine take_on (i := 3) (v := ?_) rfl rfl (by kernel_rfl) (by kernel_rfl) (by kernel_rfl) (fun _ _ _ h => h) rfl ?_ hHeld ?_
              rotate_left
              · (intro wq hSq; have q1 := (World.cell?_of_block (w := w7) (a := ⟨w.heap.size, 2, none⟩) hSq).trans m3; go_simp <;> first | with_reducible rfl | rfl)
              simp only [Act.put, List.setIfInBounds_toArray, List.set_cons_zero, List.set_cons_succ]
              refine take_on (i := 4) (v := ?_) rfl rfl (by kernel_rfl) (by kernel_rfl) (by kernel_rfl) (fun _ _ _ h => h) rfl ?_ hHeld ?_
              rotate_left
              · (intro wq hSq; have q1 := (World.cell?_of_block (w := w7) (a := ⟨w.heap.size, 2, none⟩) hSq).trans m3; go_simp <;> first | with_reducible rfl | rfl)
              simp only [Act.put, List.setIfInBounds_toArray, List.set_cons_zero, List.set_cons_succ]
              refine take_on (i := 5) (v := ?_) rfl rfl (by kernel_rfl) (by kernel_rfl) (by kernel_rfl) (fun _ _ _ h => h) rfl ?_ hHeld ?_
              rotate_left
              · (intro wq hSq; have q1 := (World.cell?_of_block (w := w7) (a := ⟨w.heap.size, 2, none⟩) hSq).trans m3; go_simp <;> first | with_reducible rfl | rfl)
              simp only [Act.put, List.setIfInBounds_toArray, List.set_cons_zero, List.set_cons_succ]
              refine take_on (i := 7) (v := ?_) rfl rfl (by kernel_rfl) (by kernel_rfl) (by kernel_rfl) (fun _ _ _ h => h) rfl ?_ hHeld ?_
              rotate_left
              · (intro wq hSq; have q1 := (World.cell?_of_block (w := w7) (a := ⟨w.heap.size, 2, none⟩) hSq).trans m3; go_simp <;> first | with_reducible rfl | rfl)
              simp only [Act.put, List.setIfInBounds_toArray, List.set_cons_zero, List.set_cons_succ]
              refine take_on (i := 8) (v := ?_) rfl rfl (by kernel_rfl) (by kernel_rfl) (by kernel_rfl) (fun _ _ _ h => h) rfl ?_ hHeld ?_
              rotate_left
              · (intro wq hSq; have q1 := (World.cell?_of_block (w := w7) (a := ⟨w.heap.size, 2, none⟩) hSq).trans m3; go_simp <;> first | with_reducible rfl | rfl)
              simp only [Act.put, List.setIfInBounds_toArray, List.set_cons_zero, List.set_cons_succ]
              refine take_one (i := 6) rfl (by kernel_rfl) (fun K hK => ?_)
              go_simp
              skip
              try go_wp2_with fail
              refine hK.out _ _ ?_ (fun hHeld => ?_)
              · exact hHeld
              clear hK K
              try simp only [Act.put, List.setIfInBounds_toArray, List.set_cons_zero, List.set_cons_succ]
              refine take_on (i := 9) (v := ?_) rfl rfl (by kernel_rfl) (by kernel_rfl) (by kernel_rfl) (fun _ _ _ h => h) rfl ?_ hHeld ?_
              rotate_left
              · (intro wq hSq; have q1 := (World.cell?_of_block (w := w7) (a := ⟨w.heap.size, 2, none⟩) hSq).trans m3; go_simp <;> first | with_reducible rfl | rfl)
              simp only [Act.put, List.setIfInBounds_toArray, List.set_cons_zero, List.set_cons_succ]
              refine take_on (i := 10) (v := ?_) rfl rfl (by kernel_rfl) (by kernel_rfl) (by kernel_rfl) (fun _ _ _ h => h) rfl ?_ hHeld ?_
              rotate_left
              · (intro wq hSq; have q1 := (World.cell?_of_block (w := w7) (a := ⟨w.heap.size, 2, none⟩) hSq).trans m3; go_simp <;> first | with_reducible rfl | rfl)
              simp only [Act.put, List.setIfInBounds_toArray, List.set_cons_zero, List.set_cons_succ]
              refine take_one (i := 11) rfl (by kernel_rfl) (fun K hK => ?_)
              go_simp
              skip
              try go_wp2_with fail
              refine hK.out _ _ ?_ (fun hHeld => ?_)
              · exact (Below.heap_setCell _ _ _ _ hgw)
              clear hK K
              try simp only [Act.put, List.setIfInBounds_toArray, List.set_cons_zero, List.set_cons_succ]
              refine wpAnyH_done (by kernel_rfl) ?_ _
              obtain ⟨w8, hw8⟩ : ∃ w8, w8 = (w7.setCell ⟨g, o2 + J, none⟩ (.int .u8 ((XX ^^^ f.t : Nat) : Int))).drew := ⟨_, rfl⟩
              rw [← hw8]
              have hO8 : OwB w8 w6.heap.size (.slice (some ⟨g, o2, none⟩) TS.length vc) WT := by rw [hw8]; exact hO7.out.keep fun _ _ => rfl
              have hD8 : Dsk w8 F5 p true 1 (upd S 0 ⟨B0, bs, k, fd0, fk0, ft0, c0 + 1⟩) := by
                rw [hw8]
                have hch : Chg (fun j => j = g) w7 (w7.setCell ⟨g, o2 + J, none⟩ (.int .u8 ((XX ^^^ f.t : Nat) : Int))) := (Chg.refl _ w7).setCell ⟨g, o2 + J, none⟩ _ (fun _ => rfl)
                exact hD7.out.chg hch.drew (fun b hb e => by have h1 := hF5l b hb; omega)
              have hbw8 : Below w.heap.size w w8 := by rw [hw8]; exact (hbw7.out.setCell hgw2 _).drew
              obtain ⟨v8, hv8q⟩ : ∃ v, v = Value.slice (some ⟨g, o2, none⟩) TS.length vc := ⟨_, rfl⟩
              rw [← hv8q]
              rw [← hv8q] at hO8
              clear hw8 hD7 hO7 hHeld hfz hci hx hx8 hw3 m3 hgw hbw7 hv8q
              obtain ⟨R, hR⟩ : ∃ R, R = strS (upd S 0 ⟨B0, bs, k, fd0, fk0, ft0, c0 + 1⟩) 1 := ⟨_, rfl⟩
              have hR0 : R 0 = ⟨B0, WT, k + cc, 0, 0, 0, 0⟩ := by
                have h1 : R 0 = ⟨B0, crashB bs k (min fk0.toNat (bs.length - k)) ft0, k + min fk0.toNat (bs.length - k), 0, 0, 0, 0⟩ := by rw [hR]; rfl
                rw [h1, hK.out, ← hcc.out, hWTe.out]
              have hWl : WT.length = k + cc := by rw [← hWTe.out]; exact crashB_len _ _ _ _ hkc2.out
              obtain ⟨NN, hNN⟩ : ∃ n, n = k + cc := ⟨_, rfl⟩
              rw [← hNN] at hR0 hWl
              have hlw : NN ≤ 211106232532800 := by have := hkc2.out; have := hlen2.out; omega
              replace hlw := hide_it hlw
              replace hNN := hide_it hNN
              replace hWl := hide_it hWl
              have hsk := strike_ok hD8
              rw [← hR] at hsk
              replace hWTe := hide_it hWTe.out
              clear hR
              go_wp2_with fail
              refine hsk.mono ?_
              rintro e w9 ⟨rfl, hw9⟩
              have hO9 : OwB w9 w6.heap.size v8 WT := hO8.keep fun j hj => hw9.chg.block j (hO8.inside j hj).2 (fun hFj => by have h1 := hF5l j hFj; have h2 := (hO8.inside j hj).1; omega)
              have hby9 := bytesOf_any hw9.dsk 0 (by omega)
              rw [hR0] at hby9
              simp only at hby9
              rw [hWl.out] at hby9
              replace hR0 := hide_it hR0
              have hD9 := hide_it hw9.dsk
              have hbw9 : Below w.heap.size w w9 := hbw8.trans (hw9.chg.below (fun b hb => by have h1 := hF5 b hb; have h2 := hbW3.size; omega) hbw8.size)
              clear hsk hw9 hO8 hD8
              go_wp2_with fail
              refine hby9.mono ?_
              rintro e w10 ⟨⟨ca, cq, rfl, hoc⟩, hb10⟩
              have hD10 := hD9.out.below hb10
              have him := imageD_ok hD10
              have hrc : RowB w10 ca WT := by obtain ⟨z1, z2, z3, z4, _⟩ := hoc.row; rw [hWl.out] at z3; cases z3; exact z4
              have hrw : ∃ wa wc, v8 = .slice wa NN wc ∧ RowB w10 wa WT := by obtain ⟨z1, z2, z3, z4, _⟩ := (hO9.below hb10).row; rw [hWl.out] at z3; exact ⟨z1, z2, z3, z4⟩
              obtain ⟨wa, wc, hv8, hrw⟩ := hrw
              have hD10' := hide_it hD10
              clear hby9 hD9 hD10 hoc hO9
              go_wp2_with fail
              refine him.mono ?_
              rintro e w11 ⟨⟨X, r, rfl, hSp⟩, hb11⟩
              obtain ⟨ia, ic, e1, hri, _⟩ := (hSp.own 0 (by omega)).row
              have hsf : safeT R 0 = (B0, WT) := by unfold safeT; rw [hR0.out]; show (B0, WT.take NN) = _; rw [← hWl.out, List.take_length]
              rw [hsf] at e1 hri
              simp only at e1 hri
              rw [hWl.out] at e1
              have y1 : w11.cell? ⟨X, 1, none⟩ = some (.slice ia NN ic) := by have := (hSp.cells (i := 0) (by omega)).2; rw [e1] at this; exact this
              have hXl := hSp.lt
              have hD11 := hD10'.out.below hb11
              have heq1 := equal_same ca wa NN cq wc WT w11 (hrc.below hb11) (hrw.below hb11) hWl.out hlw.out
              have heq2 := fun W (hb : Below w11.heap.size w11 W) => equal_same ia wa NN ic wc WT W (hri.below hb) ((hrw.below hb11).below hb) hWl.out hlw.out
              have hdn2 := fun W (hb : Below w11.heap.size w11 W) => done_ok (hD11.below hb) 0 (by omega)
              have hsy2 := fun W (hb : Below w11.heap.size w11 W) => opSync (hD11.below hb) 0 (by omega) 0 [] (by rw [hR0.out]; simp)
              rw [hR0.out] at hdn2
              have hbw11 := (hbw9.trans (hb10.mono hbw9.size)).trans (hb11.mono (hbw9.trans (hb10.mono hbw9.size)).size)
              have hcF : ∀ b, upto F5 w8 w9 b → w.heap.size ≤ b := fun b hb => by
                rcases hb with hb | hb
                · have h1 := hF5 b hb; have h2 := hbW3.size; omega
                · have := hbw8.size; omega
              have hop2 : (opS false (R 0) 1 0 []).1 = 0 := by rw [hR0.out]; rfl
              rw [hop2] at hsy2
              subst hv8
              replace hbw11 := hide_it hbw11
              replace hcF := hide_it hcF
              clear him hD10' hSp hri hrc hrw hD11 hop2 hb10 hb11 hsf e1
              go_wp2_with fail
              refine heq1.mono ?_
              rintro e w12 ⟨rfl, hb12⟩
              have y2 := (hb12.cell (p := ⟨X, 1, none⟩) hXl).trans y1
              have h2 := heq2 w12 hb12
              clear heq1 heq2
              go_wp2_with fail
              refine h2.mono ?_
              rintro e w13 ⟨rfl, hb13⟩
              have hb13' := hb12.trans (hb13.mono hb12.size)
              have h3 := hdn2 w13 hb13'
              clear h2 hdn2
              go_wp2_with fail
              refine h3.mono ?_
              rintro e w14 ⟨rfl, hw⟩
              have hw2 := hw.symm
              subst hw2
              clear hw h3
              have h4 := hsy2 w13 hb13'
              clear hsy2
              go_wp2_with fail
              refine h4.mono ?_
              rintro e w15 ⟨rfl, hw15⟩
              have hfin : Below w.heap.size w w15 := by
                have h5 := hbw11.out.trans (hb13'.mono hbw11.out.size)
                exact h5.trans (hw15.chg.below (fun b hb => hcF.out b hb) h5.size)
              clear h4 hw15
              go_wp2_with fail
              go_ret
              exact ⟨rfl, hfin⟩
            · have hc0 : ¬ 0 < cc := by omega
              have hb67 : Below w6.heap.size w6 w7 := hbe.grown hg7 hbe.size (fun j e => by cases e; exact Nat.le_refl _)
              rw [List.nil_append] at hown7
              obtain ⟨WT, hWT⟩ : ∃ t, t = TS := ⟨_, rfl⟩
              have hWTe : Hid (crashB bs k cc ft0 = WT) := by
                have h1 := hcr.out
                unfold crashB at h1
                unfold Hid crashB
                rw [if_neg hc0] at h1
                rw [if_neg hc0, hWT, h1, if_neg hc0]
              obtain ⟨w8, hw8⟩ : ∃ w8, w8 = w7 := ⟨_, rfl⟩
              obtain ⟨v8, hv8q⟩ : ∃ v, v = v7 := ⟨_, rfl⟩
              have hO8 : OwB w8 w6.heap.size v8 WT := by rw [hw8, hWT, hv8q]; exact hown7
              have hD8 := hD6.out.below hb67
              have hbw8 := hbW3.trans ((hN6.out.below hb67).bel.mono hbW3.size)
              rw [← hw8] at hD8 hbw8
              rw [← hw8, ← hv8q]
              clear hown7 hg7 hat7 hD6 hre hrt hnil2 hbe m1 m2 hN6 h8t hw8 hv8q hWT hb67
              obtain ⟨R, hR⟩ : ∃ R, R = strS (upd S 0 ⟨B0, bs, k, fd0, fk0, ft0, c0 + 1⟩) 1 := ⟨_, rfl⟩
              have hR0 : R 0 = ⟨B0, WT, k + cc, 0, 0, 0, 0⟩ := by
                have h1 : R 0 = ⟨B0, crashB bs k (min fk0.toNat (bs.length - k)) ft0, k + min fk0.toNat (bs.length - k), 0, 0, 0, 0⟩ := by rw [hR]; rfl
                rw [h1, hK.out, ← hcc.out, hWTe.out]
              have hWl : WT.length = k + cc := by rw [← hWTe.out]; exact crashB_len _ _ _ _ hkc2.out
              obtain ⟨NN, hNN⟩ : ∃ n, n = k + cc := ⟨_, rfl⟩
              rw [← hNN] at hR0 hWl
              have hlw : NN ≤ 211106232532800 := by have := hkc2.out; have := hlen2.out; omega
              replace hlw := hide_it hlw
              replace hNN := hide_it hNN
              replace hWl := hide_it hWl
              have hsk := strike_ok hD8
              rw [← hR] at hsk
              replace hWTe := hide_it hWTe.out
              clear hR
              go_wp2_with fail
              refine hsk.mono ?_
              rintro e w9 ⟨rfl, hw9⟩
              have hO9 : OwB w9 w6.heap.size v8 WT := hO8.keep fun j hj => hw9.chg.block j (hO8.inside j hj).2 (fun hFj => by have h1 := hF5l j hFj; have h2 := (hO8.inside j hj).1; omega)
              have hby9 := bytesOf_any hw9.dsk 0 (by omega)
              rw [hR0] at hby9
              simp only at hby9
              rw [hWl.out] at hby9
              replace hR0 := hide_it hR0
              have hD9 := hide_it hw9.dsk
              have hbw9 : Below w.heap.size w w9 := hbw8.trans (hw9.chg.below (fun b hb => by have h1 := hF5 b hb; have h2 := hbW3.size; omega) hbw8.size)
              clear hsk hw9 hO8 hD8
              go_wp2_with fail
              refine hby9.mono ?_
              rintro e w10 ⟨⟨ca, cq, rfl, hoc⟩, hb10⟩
              have hD10 := hD9.out.below hb10
              have him := imageD_ok hD10
              have hrc : RowB w10 ca WT := by obtain ⟨z1, z2, z3, z4, _⟩ := hoc.row; rw [hWl.out] at z3; cases z3; exact z4
              have hrw : ∃ wa wc, v8 = .slice wa NN wc ∧ RowB w10 wa WT := by obtain ⟨z1, z2, z3, z4, _⟩ := (hO9.below hb10).row; rw [hWl.out] at z3; exact ⟨z1, z2, z3, z4⟩
              obtain ⟨wa, wc, hv8, hrw⟩ := hrw
              have hD10' := hide_it hD10
              clear hby9 hD9 hD10 hoc hO9
              go_wp2_with fail
              refine him.mono ?_
              rintro e w11 ⟨⟨X, r, rfl, hSp⟩, hb11⟩
              obtain ⟨ia, ic, e1, hri, _⟩ := (hSp.own 0 (by omega)).row
              have hsf : safeT R 0 = (B0, WT) := by unfold safeT; rw [hR0.out]; show (B0, WT.take NN) = _; rw [← hWl.out, List.take_length]
              rw [hsf] at e1 hri
              simp only at e1 hri
              rw [hWl.out] at e1
              have y1 : w11.cell? ⟨X, 1, none⟩ = some (.slice ia NN ic) := by have := (hSp.cells (i := 0) (by omega)).2; rw [e1] at this; exact this
              have hXl := hSp.lt
              have hD11 := hD10'.out.below hb11
              have heq1 := equal_same ca wa NN cq wc WT w11 (hrc.below hb11) (hrw.below hb11) hWl.out hlw.out
              have heq2 := fun W (hb : Below w11.heap.size w11 W) => equal_same ia wa NN ic wc WT W (hri.below hb) ((hrw.below hb11).below hb) hWl.out hlw.out
              have hdn2 := fun W (hb : Below w11.heap.size w11 W) => done_ok (hD11.below hb) 0 (by omega)
              have hsy2 := fun W (hb : Below w11.heap.size w11 W) => opSync (hD11.below hb) 0 (by omega) 0 [] (by rw [hR0.out]; simp)
              rw [hR0.out] at hdn2
              have hbw11 := (hbw9.trans (hb10.mono hbw9.size)).trans (hb11.mono (hbw9.trans (hb10.mono hbw9.size)).size)
              have hcF : ∀ b, upto F5 w8 w9 b → w.heap.size ≤ b := fun b hb => by
                rcases hb with hb | hb
                · have h1 := hF5 b hb; have h2 := hbW3.size; omega
                · have := hbw8.size; omega
              have hop2 : (opS false (R 0) 1 0 []).1 = 0 := by rw [hR0.out]; rfl
              rw [hop2] at hsy2
              subst hv8
              replace hbw11 := hide_it hbw11
              replace hcF := hide_it hcF
              clear him hD10' hSp hri hrc hrw hD11 hop2 hb10 hb11 hsf e1
              go_wp2_with fail
              refine heq1.mono ?_
              rintro e w12 ⟨rfl, hb12⟩
              have y2 := (hb12.cell (p := ⟨X, 1, none⟩) hXl).trans y1
              have h2 := heq2 w12 hb12
              clear heq1 heq2
              go_wp2_with fail
              refine h2.mono ?_
              rintro e w13 ⟨rfl, hb13⟩
              have hb13' := hb12.trans (hb13.mono hb12.size)
              have h3 := hdn2 w13 hb13'
              clear h2 hdn2
              go_wp2_with fail
              refine h3.mono ?_
              rintro e w14 ⟨rfl, hw⟩
              have hw2 := hw.symm
              subst hw2
              clear hw h3
              have h4 := hsy2 w13 hb13'
              clear hsy2
              go_wp2_with fail
              refine h4.mono ?_
              rintro e w15 ⟨rfl, hw15⟩
              have hfin : Below w.heap.size w w15 := by
                have h5 := hbw11.out.trans (hb13'.mono hbw11.out.size)
                exact h5.trans (hw15.chg.below (fun b hb => hcF.out b hb) h5.size)
              clear h4 hw15
              go_wp2_with fail
              go_ret
              exact ⟨rfl, hfin⟩
          | false =>
            have hp := hN.poke hff2 (show w.heap.size < w2.heap.size from hfl2) 1 (.int .i64 0)
            obtain ⟨W3, hW3⟩ : ∃ W, W = w2.setCell ⟨w.heap.size, 1, none⟩ (.int .i64 0) := ⟨_, rfl⟩
            have hbox : W3.heap[w.heap.size]? = some (.cells #[.int .i64 f.d, .int .i64 0, .int .u8 (f.t : Int)] 24 (0, 0)) := by rw [hW3]; exact heap_setCell_same w2 _ 1 _ _ _ hff2
            have hflW : w.heap.size < W3.heap.size := (Array.getElem?_eq_some_iff.1 hbox).1
            have hbW3 : Below w.heap.size w W3 := by rw [hW3]; exact hbw2.setCell (Nat.le_refl _) _
            rw [← hW3] at hp
            obtain ⟨S, hS⟩ : ∃ S, S = s := ⟨_, rfl⟩
            rw [← hS] at hp hB hfk hsm1 hsm2
            have hsS1 := hsm1
            have hsS2 := hsm2
            clear hsm1 hsm2
            have hBS := hB
            have hdn : down false (S 0) = false := rfl
            have hK := hfk
            have hTt : (0 : Int).toNat ≠ 0 → (S 0).ft = f.t := fun h => absurd rfl h
            have hN4 := hp
            have hbw4 := hbW3.trans (hN4.bel.mono hbW3.size)
            have hapx := 0
            clear hS hN hB hbw g0 hs hp hW3 hfk
            obtain ⟨x0, hx0⟩ : ∃ x, x = S 0 := ⟨_, rfl⟩
            have hap := hN4.append 0 (by omega) 0 a2 c2 zs (hz.row.below hbw4) hz.all hz.none (by have := hz.size; have := hT.out; omega) (by have := hz.size; have := hT.out; omega) (by have h1 := hBS.cnt 0 (by omega); have := hT.out; omega)
            have hSle := hN4.le 0 (by omega)
            have hSlen := hsS1
            have hop : opS false (S 0) 0 0 zs = (0, { S 0 with bs := (S 0).bs ++ zs, c := (S 0).c + 1 }) := by unfold opS; rw [if_neg (by rw [hdn]; simp)]; rfl
            rw [hop] at hap
            rw [← hx0] at hap hSle hSlen hK hTt
            clear hop hdn hBS hsS1 hsS2
            obtain ⟨B0, bs0, k, fd0, fk0, ft0, c0⟩ := x0
            simp only at hap hSle hSlen hK hTt
            clear hN4
            go_wp2_with fail
            refine hap.mono ?_
            rintro e w5 ⟨rfl, hN5⟩
            have hlz := hz.size
            obtain ⟨bs, hbs⟩ : ∃ b, b = bs0 ++ zs := ⟨_, rfl⟩
            have hkl : k ≤ bs.length := by rw [hbs, List.length_append]; omega
            have hll : bs.length ≤ 1073741824 + 140737488351232 := by rw [hbs, List.length_append]; have := hT.out; omega
            rw [← hbs] at hN5
            clear hap hbs hz hlz hSle hSlen
            obtain ⟨F5, hD5, hF5⟩ := hN5.ex
            have hby := bytesOf_any hD5 0 (by omega)
            rw [upd_at] at hby
            simp only at hby
            have hro := (hD5.room 0 (by omega))
            rw [upd_at] at hro
            obtain ⟨hlen, _, h8⟩ := hro
            simp only at hlen h8
            have hN5' := hide_it hN5
            have hD5' := hide_it hD5
            have hF5l := hD5.lt
            clear hD5 hN5
            go_wp2_with fail
            refine hby.mono ?_
            rintro e w6 ⟨⟨ra, rc, rfl, ho6⟩, hb6⟩
            have hN6 := hN5'.out.below hb6
            have hD6 := hide_it (hD5'.out.below hb6)
            have hs56 := hb6.size
            have m1 : w6.cell? ⟨w.heap.size, 1, none⟩ = some (.int .i64 ((0 : Int))) := cell_of_row _ _ 1 _ _ _ ((hN6.bel.block _ hflW).trans hbox)
            have m2 : w6.cell? ⟨w.heap.size, 2, none⟩ = some (.int .u8 (f.t : Int)) := cell_of_row _ _ 2 _ _ _ ((hN6.bel.block _ hflW).trans hbox)
            obtain ⟨cc, hcc0⟩ : ∃ cc : Nat, cc = 0 := ⟨_, rfl⟩
            have hcc : Hid (cc = min ((0 : Int)).toNat (bs.length - k)) := by unfold Hid; rw [hcc0]; simp
            obtain ⟨L, hL⟩ : ∃ L, L = bs.length - k := ⟨_, rfl⟩
            have hw1 : IntKind.i64.wrap ((bs.length : Int) - (k : Int)) = (L : Int) := by rw [IntKind.wrap_i64]; omega
            have hL0 : ¬ (L : Int) < 0 := by omega
            have hwk : IntKind.i64.wrap (k : Int) = (k : Int) := by rw [IntKind.wrap_i64]; omega
            have hkc : k + cc ≤ bs.length := by omega
            obtain ⟨r1, r2, r3, hrow, hcap, _, hnil⟩ := ho6.row
            cases r3
            have hrt : RowB w6 ra (bs.take k) := by
              have h9 := (OwB.take (m := k) ho6 (by omega)).row
              rw [List.length_take, Nat.min_eq_left (by omega)] at h9
              obtain ⟨q1, q2, q3, q4, _⟩ := h9
              cases q3
              exact q4
            have hlt : (bs.take k).length = k := by rw [List.length_take, Nat.min_eq_left (by omega)]
            have hSc : k ≤ rc := by omega
            have hnil2 : ra = none → (bs.take k).length = 0 ∧ rc = 0 := fun e => ⟨by have := (hnil e).1; omega, (hnil e).2⟩
            obtain ⟨TS, hTS⟩ : ∃ t, t = bs.take k := ⟨_, rfl⟩
            rw [← hTS] at hrt hlt hnil2
            have hcr : crashB bs k cc ft0 = TS := by unfold crashB; rw [if_neg (by omega), hcc0, Nat.add_zero, hTS]
            replace hTS := hide_it hTS
            replace hcr := hide_it hcr
            replace hN6 := hide_it hN6
            replace hK := hide_it hK
            replace hTt := hide_it hTt
            replace hL := hide_it hL
            have hll2 := hide_it hll
            have hlen2 := hide_it hlen
            have hkc2 := hide_it hkc
            have hSl := hide_it (show k ≤ bs.length by omega)
            replace hcc0 := hide_it hcc0
            obtain ⟨bl, hbl⟩ : ∃ b, b = bs.length := ⟨_, rfl⟩
            rw [← hbl] at hw1
            rw [← hbl]
            replace hbl := hide_it hbl
            clear hby hN5' hD5' ho6 hrow hnil hcap hll hlen hkc hb6 h8 hkl
            have hbe : Below w6.heap.size w6 (w6.alloc (.cells #[] 5)) := (Below.refl _ _).alloc (Nat.le_refl _) _
            have hre := hrt.below hbe
            subst hlt
            go_wp2_with (at_builtin; refine wpList_appendB _ rfl _ _ rfl w6.heap.size _ [] rfl (owb_empty w6) ra rc TS rfl hre hnil2 (by simp; have := hlen2.out; have := hSl.out; omega) (by simp) ?_; intro v7 w7 hown7 hg7 hat7)
            have hb67 : Below w6.heap.size w6 w7 := hbe.grown hg7 hbe.size (fun j e => by cases e; exact Nat.le_refl _)
            rw [List.nil_append] at hown7
            obtain ⟨WT, hWT⟩ : ∃ t, t = TS := ⟨_, rfl⟩
            have hWTe : Hid (crashB bs TS.length cc ft0 = WT) := by unfold Hid; rw [hcr.out, hWT]
            obtain ⟨k, hkk⟩ : ∃ k, k = TS.length := ⟨_, rfl⟩
            rw [← hkk] at hWTe hcc hkc2 hD6 hN6
            replace hkk := hide_it hkk
            obtain ⟨w8, hw8⟩ : ∃ w8, w8 = w7 := ⟨_, rfl⟩
            obtain ⟨v8, hv8q⟩ : ∃ v, v = v7 := ⟨_, rfl⟩
            have hO8 : OwB w8 w6.heap.size v8 WT := by rw [hw8, hWT, hv8q]; exact hown7
            have hD8 := hD6.out.below hb67
            have hbw8 := hbW3.trans ((hN6.out.below hb67).bel.mono hbW3.size)
            rw [← hw8] at hD8 hbw8
            rw [← hw8, ← hv8q]
            clear hown7 hg7 hat7 hD6 hre hrt hnil2 hbe m1 m2 hN6 hw8 hv8q hWT hb67
            obtain ⟨R, hR⟩ : ∃ R, R = strS (upd S 0 ⟨B0, bs, k, fd0, fk0, ft0, c0 + 1⟩) 1 := ⟨_, rfl⟩
            have hR0 : R 0 = ⟨B0, WT, k + cc, 0, 0, 0, 0⟩ := by
              have h1 : R 0 = ⟨B0, crashB bs k (min fk0.toNat (bs.length - k)) ft0, k + min fk0.toNat (bs.length - k), 0, 0, 0, 0⟩ := by rw [hR]; rfl
              rw [h1, hK.out, ← hcc.out, hWTe.out]
            have hWl : WT.length = k + cc := by rw [← hWTe.out]; exact crashB_len _ _ _ _ hkc2.out
            obtain ⟨NN, hNN⟩ : ∃ n, n = k + cc := ⟨_, rfl⟩
            rw [← hNN] at hR0 hWl
            have hlw : NN ≤ 211106232532800 := by have := hkc2.out; have := hlen2.out; omega
            replace hlw := hide_it hlw
            replace hNN := hide_it hNN
            replace hWl := hide_it hWl
            have hsk := strike_ok hD8
            rw [← hR] at hsk
            replace hWTe := hide_it hWTe.out
            clear hR
            go_wp2_with fail
            refine hsk.mono ?_
            rintro e w9 ⟨rfl, hw9⟩
            have hO9 : OwB w9 w6.heap.size v8 WT := hO8.keep fun j hj => hw9.chg.block j (hO8.inside j hj).2 (fun hFj => by have h1 := hF5l j hFj; have h2 := (hO8.inside j hj).1; omega)
            have hby9 := bytesOf_any hw9.dsk 0 (by omega)
            rw [hR0] at hby9
            simp only at hby9
            rw [hWl.out] at hby9
            replace hR0 := hide_it hR0
            have hD9 := hide_it hw9.dsk
            have hbw9 : Below w.heap.size w w9 := hbw8.trans (hw9.chg.below (fun b hb => by have h1 := hF5 b hb; have h2 := hbW3.size; omega) hbw8.size)
            clear hsk hw9 hO8 hD8
            go_wp2_with fail
            refine hby9.mono ?_
            rintro e w10 ⟨⟨ca, cq, rfl, hoc⟩, hb10⟩
            have hD10 := hD9.out.below hb10
            have him := imageD_ok hD10
            have hrc : RowB w10 ca WT := by obtain ⟨z1, z2, z3, z4, _⟩ := hoc.row; rw [hWl.out] at z3; cases z3; exact z4
            have hrw : ∃ wa wc, v8 = .slice wa NN wc ∧ RowB w10 wa WT := by obtain ⟨z1, z2, z3, z4, _⟩ := (hO9.below hb10).row; rw [hWl.out] at z3; exact ⟨z1, z2, z3, z4⟩
            obtain ⟨wa, wc, hv8, hrw⟩ := hrw
            have hD10' := hide_it hD10
            clear hby9 hD9 hD10 hoc hO9
            go_wp2_with fail
            refine him.mono ?_
            rintro e w11 ⟨⟨X, r, rfl, hSp⟩, hb11⟩
            obtain ⟨ia, ic, e1, hri, _⟩ := (hSp.own 0 (by omega)).row
            have hsf : safeT R 0 = (B0, WT) := by unfold safeT; rw [hR0.out]; show (B0, WT.take NN) = _; rw [← hWl.out, List.take_length]
            rw [hsf] at e1 hri
            simp only at e1 hri
            rw [hWl.out] at e1
            have y1 : w11.cell? ⟨X, 1, none⟩ = some (.slice ia NN ic) := by have := (hSp.cells (i := 0) (by omega)).2; rw [e1] at this; exact this
            have hXl := hSp.lt
            have hD11 := hD10'.out.below hb11
            have heq1 := equal_same ca wa NN cq wc WT w11 (hrc.below hb11) (hrw.below hb11) hWl.out hlw.out
            have heq2 := fun W (hb : Below w11.heap.size w11 W) => equal_same ia wa NN ic wc WT W (hri.below hb) ((hrw.below hb11).below hb) hWl.out hlw.out
            have hdn2 := fun W (hb : Below w11.heap.size w11 W) => done_ok (hD11.below hb) 0 (by omega)
            have hsy2 := fun W (hb : Below w11.heap.size w11 W) => opSync (hD11.below hb) 0 (by omega) 0 [] (by rw [hR0.out]; simp)
            rw [hR0.out] at hdn2
            have hbw11 := (hbw9.trans (hb10.mono hbw9.size)).trans (hb11.mono (hbw9.trans (hb10.mono hbw9.size)).size)
            have hcF : ∀ b, upto F5 w8 w9 b → w.heap.size ≤ b := fun b hb => by
              rcases hb with hb | hb
              · have h1 := hF5 b hb; have h2 := hbW3.size; omega
              · have := hbw8.size; omega
            have hop2 : (opS false (R 0) 1 0 []).1 = 0 := by rw [hR0.out]; rfl
            rw [hop2] at hsy2
            subst hv8
            replace hbw11 := hide_it hbw11
            replace hcF := hide_it hcF
            clear him hD10' hSp hri hrc hrw hD11 hop2 hb10 hb11 hsf e1
            go_wp2_with fail
            refine heq1.mono ?_
            rintro e w12 ⟨rfl, hb12⟩
            have y2 := (hb12.cell (p := ⟨X, 1, none⟩) hXl).trans y1
            have h2 := heq2 w12 hb12
            clear heq1 heq2
            go_wp2_with fail
            refine h2.mono ?_
            rintro e w13 ⟨rfl, hb13⟩
            have hb13' := hb12.trans (hb13.mono hb12.size)
            have h3 := hdn2 w13 hb13'
            clear h2 hdn2
            go_wp2_with fail
            refine h3.mono ?_
            rintro e w14 ⟨rfl, hw⟩
            have hw2 := hw.symm
            subst hw2
            clear hw h3
            have h4 := hsy2 w13 hb13'
            clear hsy2
            go_wp2_with fail
            refine h4.mono ?_
            rintro e w15 ⟨rfl, hw15⟩
            have hfin : Below w.heap.size w w15 := by
              have h5 := hbw11.out.trans (hb13'.mono hbw11.out.size)
              exact h5.trans (hw15.chg.below (fun b hb => hcF.out b hb) h5.size)
            clear h4 hw15
            go_wp2_with fail
            go_ret
            exact ⟨rfl, hfin⟩

end Go.Proofs.Ytjmfmbeijbbdoab.diskStruck
