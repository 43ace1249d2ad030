/- The law's does: a row of calls, then all that is to be seen. -/
import Derived.Test.YtdodnegdpdhbiaaDr19
import Derived.Test.YtdodnegdpdhbiaaReg
import Derived.Test.YtdodnegdpdhbiaaReg2
namespace Go.Proofs.Ytdodnegdpdhbiaa
open Go.RowKit

set_option maxRecDepth 100000 in
set_option maxHeartbeats 4000000 in
theorem does_any {w0 w : World} {p : Nat} {F : Nat → Prop} {a : Option Addr} {c : Nat} {am : Bool} {n : Nat} {s : Nat → Pt} (hdsk : Dsk w F p am n s) (hlow : ∀ b, F b → w0.heap.size ≤ b) (hdoc : Dd w F a n s) (hbel : Below w0.heap.size w0 w) (hf : Fts am n s)
    (sa : Option Addr) (sn sc : Nat) (A : Nat → Cal) (hs : CameCal w0 sa sn A) (M : Nat) (hB : Bnd M n s) (hM : M + tot A sn ≤ 70368744177664) :
    Calls Try.prog 21 #[.pointer (some ⟨p, 0, none⟩), valD a n c am, .slice sa sn sc] w fun e w' => e = .returned (.bool true) ∧ Below w0.heap.size w0 w' := by
  obtain ⟨W0, hW0⟩ : ∃ W, W = w.alloc (.cells #[.slice a n c, .bool am] 45) := ⟨_, rfl⟩
  have hb0 : Below w.heap.size w W0 := by rw [hW0]; exact (Below.refl _ _).alloc (Nat.le_refl _) _
  obtain ⟨D, hDe⟩ : ∃ D, D = w.heap.size := ⟨_, rfl⟩
  have hBo0 : Bo w0 W0 p D F a c am n s := by
    have hFl := hdsk.lt
    refine ⟨hdsk.below hb0, hlow, ?_, ?_, fun h => ?_, ?_, hbel.trans (hb0.mono hbel.size), hf⟩
    · exact (hdoc.beside D (by omega)).below hb0
    · rw [hW0, hDe]; exact heap_alloc_new w _
    · have := hFl D h; omega
    · have := hbel.size; omega
  have hn16 := hdsk.few
  clear hdsk hdoc hf hb0 hlow
  have hsn := hs.size
  have HS := hide_it hs
  have HM := hide_it hM
  have HB0 := hide_it hB
  clear hs hM hB
  go_enter Try.func21, Try.ntmps21
  go_wp2_with fail
  rw [← hW0, ← hDe]
  clear hW0 hDe hbel
  go_loopw [20] (fun i wr => ∃ (k : Nat) (F : Nat → Prop) (a : Option Addr) (c : Nat) (am : Bool) (s : Nat → Pt), k ≤ sn ∧ i = .int .i64 (k : Int) ∧ Hid (Bo w0 wr p D F a c am n s) ∧ Hid (Bnd (M + tot A k) n s)) (fun i _ => sn - (intOf i).toNat)
  case atStart => exact ⟨0, F, a, c, am, s, by omega, rfl, hBo0, HB0⟩
  case round =>
    clear hBo0 HB0
    obtain ⟨k, F, a, c, am, s, hk, rfl, hBo, hBn⟩ := hrel
    by_cases hlt : k < sn
    · have hd : decide ((k : Int) < (sn : Int)) = true := by simp; omega
      obtain ⟨x, hx⟩ : ∃ x, x = A k := ⟨_, rfl⟩
      have hsr := HS.out.below hBo.out.bel
      have hxo := hsr.each k hlt
      obtain ⟨sb, so, rfl, hsb, e0, e1, e2, e3, e4, e5⟩ := hsr.row.here hlt
      have htot : tot A (k + 1) = tot A k + (1 + (A k).p.p.length) := rfl
      rw [← hx] at hxo e0 e1 e2 e3 e4 e5 htot
      have hlowf := hide_it (CameCal.low HS.out hlt)
      rw [← hx] at hlowf
      have hMk : Hid (M + tot A k + 1 + x.p.p.length ≤ 70368744177664) := by
        unfold Hid
        have := tot_mono A (show k + 1 ≤ sn by omega)
        have := HM.out
        omega
      obtain ⟨W1, hW1⟩ : ∃ W, W = wr.alloc (.cells #[.int .i64 x.k, .int .i64 x.i, .int .i64 x.a, .int .i64 x.b, .slice x.p.a x.p.p.length x.p.c, .slice x.fa x.fn x.fc] 61) := ⟨_, rfl⟩
      have hb1 : Below wr.heap.size wr W1 := by rw [hW1]; exact (Below.refl _ _).alloc (Nat.le_refl _) _
      have hbc1 : BoxC W1 wr.heap.size x := by rw [hW1]; exact heap_alloc_new wr _
      have hBo1 := hide_it (hBo.out.below hb1)
      have hxo1 := hide_it (hxo.below hb1)
      obtain ⟨d0, d1, _⟩ := hBo.out.box.cells
      have hwant := want_any (c := c) (am := am) hBo1.out.doc (fun b hb => by rcases hb with hb | hb; exact hBo1.out.dsk.lt b hb; rw [hb]; exact hBo1.out.box.lt) x hxo1.out (M + tot A k) hBn.out hMk.out hBo1.out.fts
      have hDl := hBo.out.box.lt
      replace hx := hide_it hx
      clear hsr hxo hb1 htot
      go_wp2_with fail
      change Calls _ _ #[valD a n c am, valC x] _ _
      rw [← hW1]
      refine hwant.mono ?_
      rintro e W2 ⟨vt, vd, rfl, hT, ⟨a', c', rfl, hD2⟩, hb2⟩
      have hTT := hide_it hT
      obtain ⟨ta, tc, ua, uc, hvt, _⟩ := hT.ex
      subst hvt
      obtain ⟨R, hR⟩ : ∃ R, R = calS am n s x := ⟨_, rfl⟩
      have hfts := hide_it (hBo1.out.fts.call x hxo1.out)
      have hbnd := hide_it (hBn.out.call am x hBo1.out.dsk.le)
      rw [← hR] at hfts hbnd hTT hD2 ⊢
      have hBo2 := hide_it (hBo1.out.below hb2)
      have hxo2 := hide_it (hxo1.out.below hb2)
      have hbc2 : BoxC W2 wr.heap.size x := (hb2.block _ (Array.getElem?_eq_some_iff.1 hbc1).1).trans hbc1
      have hl8 : wr.heap.size < W2.heap.size := (Array.getElem?_eq_some_iff.1 hbc2).1
      have HD2 := hide_it hD2
      have HR := hide_it hR
      have hFl := hide_it hBo.out.dsk.lt
      have hW1s := hide_it (show wr.heap.size ≤ W1.heap.size by rw [hW1]; simp)
      clear hwant hT hD2 hR hW1 hBo hb2 hbc1 d0 d1 e0 e1 e2 e3 e4 e5
      obtain ⟨g0, g1, g2, g3, g4, g5⟩ := hbc2.cells
      obtain ⟨W3, hW3⟩ : ∃ W, W = (W2.alloc (.cells #[.int .i64 R.1.E, .int .i64 R.1.X, .int .i64 R.1.Y, .int .i64 R.1.Z, .slice ta R.1.P.length tc, .slice ua R.1.n uc] 63)).alloc (.cells #[.slice a' n c', .bool R.2.1] 45) := ⟨_, rfl⟩
      have hb3 : Below W2.heap.size W2 W3 := by rw [hW3]; exact ((Below.refl _ _).alloc (Nat.le_refl _) _).alloc (by simp) _
      have hbt3 : BxT W3 W2.heap.size R.1.E R.1.X R.1.Y R.1.Z (.slice ta R.1.P.length tc) (.slice ua R.1.n uc) := by rw [hW3]; exact (Below.heap_alloc _ _ _ (by simp)).trans (heap_alloc_new W2 _)
      have hbn3 : BxD W3 (W2.heap.size + 1) a' n c' R.2.1 := by
        rw [hW3]
        have h := heap_alloc_new (W2.alloc (.cells #[.int .i64 R.1.E, .int .i64 R.1.X, .int .i64 R.1.Y, .int .i64 R.1.Z, .slice ta R.1.P.length tc, .slice ua R.1.n uc] 63)) (.cells #[.slice a' n c', .bool R.2.1] 45)
        rw [World.size_alloc] at h
        exact h
      have hbc3 : BoxC W3 wr.heap.size x := (hb3.block _ hl8).trans hbc2
      have hBo3 := hide_it (hBo2.out.below (hb3.trans (Below.refl _ _).drew))
      have HD3 := hide_it (HD2.out.below (hb3.trans (Below.refl _ _).drew))
      have hTd3 := hide_it (hTT.out.below hb3)
      have hcall := call_any hBo3.out.dsk x (hxo2.out.below (hb3.trans (Below.refl _ _).drew)) (hlowf.out.imp (fun e => e) fun h ad e hF => by have := hBo3.out.low _ hF; have := h ad e; omega) (M + tot A k) hBn.out hMk.out
      rw [← HR.out] at hcall
      have l9 := hbt3.cells
      have hs9 : W2.heap.size < W3.heap.size := (Array.getElem?_eq_some_iff.1 hbt3).1
      have hs10 : W2.heap.size + 1 < W3.heap.size := hbn3.lt
      have hs8 : wr.heap.size < W3.heap.size := by omega
      have n8 : ¬ F wr.heap.size := fun h => by have := hFl.out _ h; omega
      have n9 : ¬ F W2.heap.size := fun h => by have := hFl.out _ h; omega
      have n10 : ¬ F (W2.heap.size + 1) := fun h => by have := hFl.out _ h; omega
      clear hBo2 HD2 hxo2 hbc2 hTT hBo1 hxo1
      replace hl8 := hide_it hl8
      go_wp2_with fail
      rw [← hW3]
      clear hW3 g0 g1 g2 g3 g4 g5 hb3
      obtain ⟨g0, g1, g2, g3, g4, g5⟩ := hbc3.cells
      obtain ⟨t0, t1, t2, t3, t4, t5, _⟩ := l9
      refine wp_region_held_drew (S := (fun w' => Chg F W3 w')) (by kernel_rfl) ?_ (fun hHeld => ?_)
      · exact (Chg.refl _ _).drew
      refine take_on (i := 0) (v := ?_) rfl rfl (by kernel_rfl) (by kernel_rfl) (by kernel_rfl) (fun _ _ _ h => h) rfl ?_ hHeld ?_
      rotate_left
      · (intro wq hSq; have p0 := (hSq.cell (a := ⟨wr.heap.size, 0, none⟩) hs8 n8).trans g0; have p1 := (hSq.cell (a := ⟨wr.heap.size, 1, none⟩) hs8 n8).trans g1; have p2 := (hSq.cell (a := ⟨wr.heap.size, 2, none⟩) hs8 n8).trans g2; have p3 := (hSq.cell (a := ⟨wr.heap.size, 3, none⟩) hs8 n8).trans g3; have p4 := (hSq.cell (a := ⟨wr.heap.size, 4, none⟩) hs8 n8).trans g4; have p5 := (hSq.cell (a := ⟨wr.heap.size, 5, none⟩) hs8 n8).trans g5; have q0 := (hSq.cell (a := ⟨W2.heap.size, 0, none⟩) hs9 n9).trans t0; have q1 := (hSq.cell (a := ⟨W2.heap.size, 1, none⟩) hs9 n9).trans t1; have q2 := (hSq.cell (a := ⟨W2.heap.size, 2, none⟩) hs9 n9).trans t2; have q3 := (hSq.cell (a := ⟨W2.heap.size, 3, none⟩) hs9 n9).trans t3; have q4 := (hSq.cell (a := ⟨W2.heap.size, 4, none⟩) hs9 n9).trans t4; have q5 := (hSq.cell (a := ⟨W2.heap.size, 5, none⟩) hs9 n9).trans t5; go_simp <;> first | with_reducible rfl | rfl)
      simp only [Act.put, List.setIfInBounds_toArray, List.set_cons_zero, List.set_cons_succ]
      refine take_on (i := 1) (v := ?_) rfl rfl (by kernel_rfl) (by kernel_rfl) (by kernel_rfl) (fun _ _ _ h => h) rfl ?_ hHeld ?_
      rotate_left
      · (intro wq hSq; have p0 := (hSq.cell (a := ⟨wr.heap.size, 0, none⟩) hs8 n8).trans g0; have p1 := (hSq.cell (a := ⟨wr.heap.size, 1, none⟩) hs8 n8).trans g1; have p2 := (hSq.cell (a := ⟨wr.heap.size, 2, none⟩) hs8 n8).trans g2; have p3 := (hSq.cell (a := ⟨wr.heap.size, 3, none⟩) hs8 n8).trans g3; have p4 := (hSq.cell (a := ⟨wr.heap.size, 4, none⟩) hs8 n8).trans g4; have p5 := (hSq.cell (a := ⟨wr.heap.size, 5, none⟩) hs8 n8).trans g5; have q0 := (hSq.cell (a := ⟨W2.heap.size, 0, none⟩) hs9 n9).trans t0; have q1 := (hSq.cell (a := ⟨W2.heap.size, 1, none⟩) hs9 n9).trans t1; have q2 := (hSq.cell (a := ⟨W2.heap.size, 2, none⟩) hs9 n9).trans t2; have q3 := (hSq.cell (a := ⟨W2.heap.size, 3, none⟩) hs9 n9).trans t3; have q4 := (hSq.cell (a := ⟨W2.heap.size, 4, none⟩) hs9 n9).trans t4; have q5 := (hSq.cell (a := ⟨W2.heap.size, 5, none⟩) hs9 n9).trans t5; go_simp <;> first | with_reducible rfl | rfl)
      simp only [Act.put, List.setIfInBounds_toArray, List.set_cons_zero, List.set_cons_succ]
      refine take_on (i := 3) (v := ?_) rfl rfl (by kernel_rfl) (by kernel_rfl) (by kernel_rfl) (fun _ _ _ h => h) rfl ?_ hHeld ?_
      rotate_left
      · (intro wq hSq; have p0 := (hSq.cell (a := ⟨wr.heap.size, 0, none⟩) hs8 n8).trans g0; have p1 := (hSq.cell (a := ⟨wr.heap.size, 1, none⟩) hs8 n8).trans g1; have p2 := (hSq.cell (a := ⟨wr.heap.size, 2, none⟩) hs8 n8).trans g2; have p3 := (hSq.cell (a := ⟨wr.heap.size, 3, none⟩) hs8 n8).trans g3; have p4 := (hSq.cell (a := ⟨wr.heap.size, 4, none⟩) hs8 n8).trans g4; have p5 := (hSq.cell (a := ⟨wr.heap.size, 5, none⟩) hs8 n8).trans g5; have q0 := (hSq.cell (a := ⟨W2.heap.size, 0, none⟩) hs9 n9).trans t0; have q1 := (hSq.cell (a := ⟨W2.heap.size, 1, none⟩) hs9 n9).trans t1; have q2 := (hSq.cell (a := ⟨W2.heap.size, 2, none⟩) hs9 n9).trans t2; have q3 := (hSq.cell (a := ⟨W2.heap.size, 3, none⟩) hs9 n9).trans t3; have q4 := (hSq.cell (a := ⟨W2.heap.size, 4, none⟩) hs9 n9).trans t4; have q5 := (hSq.cell (a := ⟨W2.heap.size, 5, none⟩) hs9 n9).trans t5; go_simp <;> first | with_reducible rfl | rfl)
      simp only [Act.put, List.setIfInBounds_toArray, List.set_cons_zero, List.set_cons_succ]
      refine take_one (i := 2) rfl (by kernel_rfl) (fun K hK => ?_)
      go_simp
      refine hcall.mono ?_; rintro e w4 hC; obtain ⟨v4, rfl, hT4⟩ := hC.ex; have hcg4 := hide_it ((Chg.refl F W3).drew.trans hC.went.chg (fun _ _ h => h)); have hwent := hide_it hC.went; replace hT4 := hide_it hT4; clear hC hcall
      try go_wp2_with fail
      refine hK.out _ _ ?_ (fun hHeld => ?_)
      · exact hcg4.out
      clear hK K
      try simp only [Act.put, List.setIfInBounds_toArray, List.set_cons_zero, List.set_cons_succ]
      refine take_one (i := 4) rfl (by kernel_rfl) (fun K hK => ?_)
      go_simp
      refine (alike_same v4 _ _ W1.heap.size R.1 w4 hT4.out (hTd3.out.chg hcg4.out (fun b hb => by have := hFl.out b hb; have := hW1s.out; omega))).mono ?_; rintro e w5 ⟨rfl, hb5⟩; have hcg5 := hide_it (hcg4.out.trans (Chg.new hb5) (fun _ _ h => h)); have hwent5 := hide_it (hwent.out.trans (Went.of_below hwent.out.dsk hb5)); clear hb5
      try go_wp2_with fail
      refine hK.out _ _ ?_ (fun hHeld => ?_)
      · exact hcg5.out
      clear hK K
      try simp only [Act.put, List.setIfInBounds_toArray, List.set_cons_zero, List.set_cons_succ]
      refine take_on (i := 5) (v := ?_) rfl rfl (by kernel_rfl) (by kernel_rfl) (by kernel_rfl) (fun _ _ _ h => h) rfl ?_ hHeld ?_
      rotate_left
      · (intro wq hSq; have p0 := (hSq.cell (a := ⟨wr.heap.size, 0, none⟩) hs8 n8).trans g0; have p1 := (hSq.cell (a := ⟨wr.heap.size, 1, none⟩) hs8 n8).trans g1; have p2 := (hSq.cell (a := ⟨wr.heap.size, 2, none⟩) hs8 n8).trans g2; have p3 := (hSq.cell (a := ⟨wr.heap.size, 3, none⟩) hs8 n8).trans g3; have p4 := (hSq.cell (a := ⟨wr.heap.size, 4, none⟩) hs8 n8).trans g4; have p5 := (hSq.cell (a := ⟨wr.heap.size, 5, none⟩) hs8 n8).trans g5; have q0 := (hSq.cell (a := ⟨W2.heap.size, 0, none⟩) hs9 n9).trans t0; have q1 := (hSq.cell (a := ⟨W2.heap.size, 1, none⟩) hs9 n9).trans t1; have q2 := (hSq.cell (a := ⟨W2.heap.size, 2, none⟩) hs9 n9).trans t2; have q3 := (hSq.cell (a := ⟨W2.heap.size, 3, none⟩) hs9 n9).trans t3; have q4 := (hSq.cell (a := ⟨W2.heap.size, 4, none⟩) hs9 n9).trans t4; have q5 := (hSq.cell (a := ⟨W2.heap.size, 5, none⟩) hs9 n9).trans t5; go_simp <;> first | with_reducible rfl | rfl)
      simp only [Act.put, List.setIfInBounds_toArray, List.set_cons_zero, List.set_cons_succ]
      refine wpAnyH_done (by kernel_rfl) ?_ _
      have hnext : BxD w5 (W2.heap.size + 1) a' n c' R.2.1 := (hcg5.out.block _ hs10 n10).trans hbn3
      have hdbox : BxD w5 D a n c am := (hcg5.out.block D hBo3.out.box.lt hBo3.out.out).trans hBo3.out.box
      obtain ⟨d0, d1, dz⟩ := hdbox.cells
      obtain ⟨m0, m1, _⟩ := hnext.cells
      have hnd : ¬ D = W2.heap.size + 1 := fun e => by have := hDl; have := hl8.out; omega
      have hBo5 := hide_it (hBo3.out.step hfts.out HD3.out hwent5.out c')
      have hBn5 : Hid (Bnd (M + tot A (k + 1)) n R.2.2) := by
        have h1 := hbnd.out
        have h2 : tot A (k + 1) = tot A k + (1 + x.p.p.length) := by rw [hx.out]; rfl
        unfold Hid
        rw [h2]
        exact h1.mono (by omega)
      clear hbnd hfts hwent5 hwent hT4 hTd3 hcg4 hcg5 hBo3 HD3 hbt3 hbn3 hbc3 g0 g1 g2 g3 g4 g5 t0 t1 t2 t3 t4 t5 hnext hdbox n8 n9 n10 hs8 hs9 hs10
      go_wp2_with fail
      exact ⟨⟨k + 1, _, _, _, _, _, by omega, by go_num, hBo5.out, hBn5⟩, by simp [intOf]; omega⟩
    · have hd : decide ((k : Int) < (sn : Int)) = false := by simp; omega
      clear hBn HS HM
      obtain ⟨bb, bo, hab, _⟩ := hBo.out.doc.row
      subst hab
      obtain ⟨d0, d1, _⟩ := hBo.out.box.cells
      go_wp2_with fail
      go_loopw [41] (fun i wq => ∃ j : Nat, j ≤ n ∧ i = .int .i64 (j : Int) ∧ Hid (Bo w0 wq p D F (some ⟨bb, bo, none⟩) c am n s)) (fun i _ => n - (intOf i).toNat)
      case atStart => exact ⟨0, by omega, rfl, hBo⟩
      case round =>
        obtain ⟨j, hj, rfl, hB⟩ := hrel
        clear hBo d0 d1
        by_cases hjn : j < n
        · have hd2 : decide ((j : Int) < (n : Int)) = true := by simp; omega
          obtain ⟨x, hx⟩ : ∃ x, x = s j := ⟨_, rfl⟩
          have hbo := bounds_ok hB.out.dsk j hjn
          have hrm := hB.out.dsk.room j hjn
          have hkl := hB.out.dsk.le j hjn
          rw [← hx] at hbo hrm hkl
          have hx' := hide_it hx
          clear hx
          go_wp2_with fail
          refine hbo.mono ?_
          rintro e W1 ⟨rfl, hb1⟩
          have hB1 := hide_it (hB.out.below hb1)
          obtain ⟨Yn, hYn⟩ : ∃ y, y = x.B + x.k := ⟨_, rfl⟩
          obtain ⟨Zn, hZn⟩ : ∃ y, y = x.B + x.bs.length := ⟨_, rfl⟩
          rw [← hYn, ← hZn]
          have hwz : IntKind.i64.wrap ((Zn : Int) - (x.B : Int)) = (x.bs.length : Int) := by rw [IntKind.wrap_i64]; omega
          have hwy : IntKind.i64.wrap ((x.B : Int) + (x.k : Int)) = (Yn : Int) := by rw [IntKind.wrap_i64]; omega
          have hrd := readD_ok hB1.out.dsk j hjn 0 x.bs.length (by rw [← hx'.out]; omega) (x.B : Int) (by rw [← hx'.out]; omega)
          rw [← hx'.out] at hrd
          have hzs : (x.bs.take (0 + x.bs.length)).drop 0 = x.bs := by rw [Nat.zero_add, List.take_length]; rfl
          rw [hzs] at hrd
          clear hbo hb1 hB hYn hZn hzs
          go_wp2_with fail
          refine hrd.mono ?_
          rintro e W2 ⟨⟨v, rfl, hown⟩, hb2⟩
          obtain ⟨ra, rc, hv, hrow, _⟩ := hown.row
          subst hv
          have hB2 := hide_it (hB1.out.below hb2)
          clear hrd hown hb2 hB1
          obtain ⟨b', o', e', hbl', _, hrr⟩ := hB2.out.doc.row
          cases e'
          obtain ⟨qa, qc, hv, hrow2, _⟩ := hrr j hjn
          rw [← hx'.out] at hv hrow2
          obtain ⟨c0, c1, c2, c3, _, _, _⟩ := hv
          obtain ⟨f0, f1, _⟩ := hB2.out.box.cells
          have hDl := hB2.out.box.lt
          have hq1 : Hid (∀ W, Below W2.heap.size W2 W → Calls Try.prog 30 #[.slice ra x.bs.length rc, .slice qa x.bs.length qc] W fun e w' => e = .returned (.bool true) ∧ Below W.heap.size W w') := fun W h => equal_same ra qa x.bs.length rc qc x.bs W (hrow.below h) (hrow2.below h) rfl hrm.1
          have hq2 : Hid (∀ W, Below W2.heap.size W2 W → Calls Try.prog 47 #[.pointer (some ⟨p, 0, none⟩), .int .i64 (j : Int)] W fun e w' => e = .returned (.int .i64 (x.c : Int)) ∧ w' = W) := fun W h => by
            have := done_ok (hB2.out.below h).dsk j hjn
            rw [← hx'.out] at this
            exact this
          clear hrr hrow hrow2
          go_wp2_with fail
          refine wp_region_held_drew (S := (fun w' => Below W2.heap.size W2 w')) (by kernel_rfl) ?_ (fun hHeld => ?_)
          · exact (Below.refl _ _).drew
          refine take_on (i := 0) (v := ?_) rfl rfl (by kernel_rfl) (by kernel_rfl) (by kernel_rfl) (fun _ _ _ h => h) rfl ?_ hHeld ?_
          rotate_left
          · (intro wq hSq; have p0 := (hSq.cell (p := ⟨D, 0, none⟩) hDl).trans f0; have q0 := (hSq.cell (p := ⟨bb, bo + j * 7, none⟩) hbl').trans c0; have q1 := (hSq.cell (p := ⟨bb, bo + j * 7 + 1, none⟩) hbl').trans c1; have q2 := (hSq.cell (p := ⟨bb, bo + j * 7 + 2, none⟩) hbl').trans c2; have q3 := (hSq.cell (p := ⟨bb, bo + j * 7 + 3, none⟩) hbl').trans c3; go_simp <;> first | with_reducible rfl | rfl)
          simp only [Act.put, List.setIfInBounds_toArray, List.set_cons_zero, List.set_cons_succ]
          refine take_on (i := 1) (v := ?_) rfl rfl (by kernel_rfl) (by kernel_rfl) (by kernel_rfl) (fun _ _ _ h => h) rfl ?_ hHeld ?_
          rotate_left
          · (intro wq hSq; have p0 := (hSq.cell (p := ⟨D, 0, none⟩) hDl).trans f0; have q0 := (hSq.cell (p := ⟨bb, bo + j * 7, none⟩) hbl').trans c0; have q1 := (hSq.cell (p := ⟨bb, bo + j * 7 + 1, none⟩) hbl').trans c1; have q2 := (hSq.cell (p := ⟨bb, bo + j * 7 + 2, none⟩) hbl').trans c2; have q3 := (hSq.cell (p := ⟨bb, bo + j * 7 + 3, none⟩) hbl').trans c3; go_simp <;> first | with_reducible rfl | rfl)
          simp only [Act.put, List.setIfInBounds_toArray, List.set_cons_zero, List.set_cons_succ]
          refine take_on (i := 2) (v := ?_) rfl rfl (by kernel_rfl) (by kernel_rfl) (by kernel_rfl) (fun _ _ _ h => h) rfl ?_ hHeld ?_
          rotate_left
          · (intro wq hSq; have p0 := (hSq.cell (p := ⟨D, 0, none⟩) hDl).trans f0; have q0 := (hSq.cell (p := ⟨bb, bo + j * 7, none⟩) hbl').trans c0; have q1 := (hSq.cell (p := ⟨bb, bo + j * 7 + 1, none⟩) hbl').trans c1; have q2 := (hSq.cell (p := ⟨bb, bo + j * 7 + 2, none⟩) hbl').trans c2; have q3 := (hSq.cell (p := ⟨bb, bo + j * 7 + 3, none⟩) hbl').trans c3; go_simp <;> first | with_reducible rfl | rfl)
          simp only [Act.put, List.setIfInBounds_toArray, List.set_cons_zero, List.set_cons_succ]
          refine take_on (i := 3) (v := ?_) rfl rfl (by kernel_rfl) (by kernel_rfl) (by kernel_rfl) (fun _ _ _ h => h) rfl ?_ hHeld ?_
          rotate_left
          · (intro wq hSq; have p0 := (hSq.cell (p := ⟨D, 0, none⟩) hDl).trans f0; have q0 := (hSq.cell (p := ⟨bb, bo + j * 7, none⟩) hbl').trans c0; have q1 := (hSq.cell (p := ⟨bb, bo + j * 7 + 1, none⟩) hbl').trans c1; have q2 := (hSq.cell (p := ⟨bb, bo + j * 7 + 2, none⟩) hbl').trans c2; have q3 := (hSq.cell (p := ⟨bb, bo + j * 7 + 3, none⟩) hbl').trans c3; go_simp <;> first | with_reducible rfl | rfl)
          simp only [Act.put, List.setIfInBounds_toArray, List.set_cons_zero, List.set_cons_succ]
          refine take_on (i := 4) (v := ?_) rfl rfl (by kernel_rfl) (by kernel_rfl) (by kernel_rfl) (fun _ _ _ h => h) rfl ?_ hHeld ?_
          rotate_left
          · (intro wq hSq; have p0 := (hSq.cell (p := ⟨D, 0, none⟩) hDl).trans f0; have q0 := (hSq.cell (p := ⟨bb, bo + j * 7, none⟩) hbl').trans c0; have q1 := (hSq.cell (p := ⟨bb, bo + j * 7 + 1, none⟩) hbl').trans c1; have q2 := (hSq.cell (p := ⟨bb, bo + j * 7 + 2, none⟩) hbl').trans c2; have q3 := (hSq.cell (p := ⟨bb, bo + j * 7 + 3, none⟩) hbl').trans c3; go_simp <;> first | with_reducible rfl | rfl)
          simp only [Act.put, List.setIfInBounds_toArray, List.set_cons_zero, List.set_cons_succ]
          refine take_on (i := 5) (v := ?_) rfl rfl (by kernel_rfl) (by kernel_rfl) (by kernel_rfl) (fun _ _ _ h => h) rfl ?_ hHeld ?_
          rotate_left
          · (intro wq hSq; have p0 := (hSq.cell (p := ⟨D, 0, none⟩) hDl).trans f0; have q0 := (hSq.cell (p := ⟨bb, bo + j * 7, none⟩) hbl').trans c0; have q1 := (hSq.cell (p := ⟨bb, bo + j * 7 + 1, none⟩) hbl').trans c1; have q2 := (hSq.cell (p := ⟨bb, bo + j * 7 + 2, none⟩) hbl').trans c2; have q3 := (hSq.cell (p := ⟨bb, bo + j * 7 + 3, none⟩) hbl').trans c3; go_simp <;> first | with_reducible rfl | rfl)
          simp only [Act.put, List.setIfInBounds_toArray, List.set_cons_zero, List.set_cons_succ]
          refine take_on (i := 6) (v := ?_) rfl rfl (by kernel_rfl) (by kernel_rfl) (by kernel_rfl) (fun _ _ _ h => h) rfl ?_ hHeld ?_
          rotate_left
          · (intro wq hSq; have p0 := (hSq.cell (p := ⟨D, 0, none⟩) hDl).trans f0; have q0 := (hSq.cell (p := ⟨bb, bo + j * 7, none⟩) hbl').trans c0; have q1 := (hSq.cell (p := ⟨bb, bo + j * 7 + 1, none⟩) hbl').trans c1; have q2 := (hSq.cell (p := ⟨bb, bo + j * 7 + 2, none⟩) hbl').trans c2; have q3 := (hSq.cell (p := ⟨bb, bo + j * 7 + 3, none⟩) hbl').trans c3; go_simp <;> first | with_reducible rfl | rfl)
          simp only [Act.put, List.setIfInBounds_toArray, List.set_cons_zero, List.set_cons_succ]
          refine take_on (i := 7) (v := ?_) rfl rfl (by kernel_rfl) (by kernel_rfl) (by kernel_rfl) (fun _ _ _ h => h) rfl ?_ hHeld ?_
          rotate_left
          · (intro wq hSq; have p0 := (hSq.cell (p := ⟨D, 0, none⟩) hDl).trans f0; have q0 := (hSq.cell (p := ⟨bb, bo + j * 7, none⟩) hbl').trans c0; have q1 := (hSq.cell (p := ⟨bb, bo + j * 7 + 1, none⟩) hbl').trans c1; have q2 := (hSq.cell (p := ⟨bb, bo + j * 7 + 2, none⟩) hbl').trans c2; have q3 := (hSq.cell (p := ⟨bb, bo + j * 7 + 3, none⟩) hbl').trans c3; go_simp <;> first | with_reducible rfl | rfl)
          simp only [Act.put, List.setIfInBounds_toArray, List.set_cons_zero, List.set_cons_succ]
          refine take_on (i := 8) (v := ?_) rfl rfl (by kernel_rfl) (by kernel_rfl) (by kernel_rfl) (fun _ _ _ h => h) rfl ?_ hHeld ?_
          rotate_left
          · (intro wq hSq; have p0 := (hSq.cell (p := ⟨D, 0, none⟩) hDl).trans f0; have q0 := (hSq.cell (p := ⟨bb, bo + j * 7, none⟩) hbl').trans c0; have q1 := (hSq.cell (p := ⟨bb, bo + j * 7 + 1, none⟩) hbl').trans c1; have q2 := (hSq.cell (p := ⟨bb, bo + j * 7 + 2, none⟩) hbl').trans c2; have q3 := (hSq.cell (p := ⟨bb, bo + j * 7 + 3, none⟩) hbl').trans c3; go_simp <;> first | with_reducible rfl | rfl)
          simp only [Act.put, List.setIfInBounds_toArray, List.set_cons_zero, List.set_cons_succ]
          refine take_on (i := 9) (v := ?_) rfl rfl (by kernel_rfl) (by kernel_rfl) (by kernel_rfl) (fun _ _ _ h => h) rfl ?_ hHeld ?_
          rotate_left
          · (intro wq hSq; have p0 := (hSq.cell (p := ⟨D, 0, none⟩) hDl).trans f0; have q0 := (hSq.cell (p := ⟨bb, bo + j * 7, none⟩) hbl').trans c0; have q1 := (hSq.cell (p := ⟨bb, bo + j * 7 + 1, none⟩) hbl').trans c1; have q2 := (hSq.cell (p := ⟨bb, bo + j * 7 + 2, none⟩) hbl').trans c2; have q3 := (hSq.cell (p := ⟨bb, bo + j * 7 + 3, none⟩) hbl').trans c3; go_simp <;> first | with_reducible rfl | rfl)
          simp only [Act.put, List.setIfInBounds_toArray, List.set_cons_zero, List.set_cons_succ]
          refine take_on (i := 10) (v := ?_) rfl rfl (by kernel_rfl) (by kernel_rfl) (by kernel_rfl) (fun _ _ _ h => h) rfl ?_ hHeld ?_
          rotate_left
          · (intro wq hSq; have p0 := (hSq.cell (p := ⟨D, 0, none⟩) hDl).trans f0; have q0 := (hSq.cell (p := ⟨bb, bo + j * 7, none⟩) hbl').trans c0; have q1 := (hSq.cell (p := ⟨bb, bo + j * 7 + 1, none⟩) hbl').trans c1; have q2 := (hSq.cell (p := ⟨bb, bo + j * 7 + 2, none⟩) hbl').trans c2; have q3 := (hSq.cell (p := ⟨bb, bo + j * 7 + 3, none⟩) hbl').trans c3; go_simp <;> first | with_reducible rfl | rfl)
          simp only [Act.put, List.setIfInBounds_toArray, List.set_cons_zero, List.set_cons_succ]
          refine take_on (i := 11) (v := ?_) rfl rfl (by kernel_rfl) (by kernel_rfl) (by kernel_rfl) (fun _ _ _ h => h) rfl ?_ hHeld ?_
          rotate_left
          · (intro wq hSq; have p0 := (hSq.cell (p := ⟨D, 0, none⟩) hDl).trans f0; have q0 := (hSq.cell (p := ⟨bb, bo + j * 7, none⟩) hbl').trans c0; have q1 := (hSq.cell (p := ⟨bb, bo + j * 7 + 1, none⟩) hbl').trans c1; have q2 := (hSq.cell (p := ⟨bb, bo + j * 7 + 2, none⟩) hbl').trans c2; have q3 := (hSq.cell (p := ⟨bb, bo + j * 7 + 3, none⟩) hbl').trans c3; go_simp <;> first | with_reducible rfl | rfl)
          simp only [Act.put, List.setIfInBounds_toArray, List.set_cons_zero, List.set_cons_succ]
          refine take_on (i := 12) (v := ?_) rfl rfl (by kernel_rfl) (by kernel_rfl) (by kernel_rfl) (fun _ _ _ h => h) rfl ?_ hHeld ?_
          rotate_left
          · (intro wq hSq; have p0 := (hSq.cell (p := ⟨D, 0, none⟩) hDl).trans f0; have q0 := (hSq.cell (p := ⟨bb, bo + j * 7, none⟩) hbl').trans c0; have q1 := (hSq.cell (p := ⟨bb, bo + j * 7 + 1, none⟩) hbl').trans c1; have q2 := (hSq.cell (p := ⟨bb, bo + j * 7 + 2, none⟩) hbl').trans c2; have q3 := (hSq.cell (p := ⟨bb, bo + j * 7 + 3, none⟩) hbl').trans c3; go_simp <;> first | with_reducible rfl | rfl)
          simp only [Act.put, List.setIfInBounds_toArray, List.set_cons_zero, List.set_cons_succ]
          refine take_on (i := 13) (v := ?_) rfl rfl (by kernel_rfl) (by kernel_rfl) (by kernel_rfl) (fun _ _ _ h => h) rfl ?_ hHeld ?_
          rotate_left
          · (intro wq hSq; have p0 := (hSq.cell (p := ⟨D, 0, none⟩) hDl).trans f0; have q0 := (hSq.cell (p := ⟨bb, bo + j * 7, none⟩) hbl').trans c0; have q1 := (hSq.cell (p := ⟨bb, bo + j * 7 + 1, none⟩) hbl').trans c1; have q2 := (hSq.cell (p := ⟨bb, bo + j * 7 + 2, none⟩) hbl').trans c2; have q3 := (hSq.cell (p := ⟨bb, bo + j * 7 + 3, none⟩) hbl').trans c3; go_simp <;> first | with_reducible rfl | rfl)
          simp only [Act.put, List.setIfInBounds_toArray, List.set_cons_zero, List.set_cons_succ]
          refine take_on (i := 14) (v := ?_) rfl rfl (by kernel_rfl) (by kernel_rfl) (by kernel_rfl) (fun _ _ _ h => h) rfl ?_ hHeld ?_
          rotate_left
          · (intro wq hSq; have p0 := (hSq.cell (p := ⟨D, 0, none⟩) hDl).trans f0; have q0 := (hSq.cell (p := ⟨bb, bo + j * 7, none⟩) hbl').trans c0; have q1 := (hSq.cell (p := ⟨bb, bo + j * 7 + 1, none⟩) hbl').trans c1; have q2 := (hSq.cell (p := ⟨bb, bo + j * 7 + 2, none⟩) hbl').trans c2; have q3 := (hSq.cell (p := ⟨bb, bo + j * 7 + 3, none⟩) hbl').trans c3; go_simp <;> first | with_reducible rfl | rfl)
          simp only [Act.put, List.setIfInBounds_toArray, List.set_cons_zero, List.set_cons_succ]
          refine take_on (i := 15) (v := ?_) rfl rfl (by kernel_rfl) (by kernel_rfl) (by kernel_rfl) (fun _ _ _ h => h) rfl ?_ hHeld ?_
          rotate_left
          · (intro wq hSq; have p0 := (hSq.cell (p := ⟨D, 0, none⟩) hDl).trans f0; have q0 := (hSq.cell (p := ⟨bb, bo + j * 7, none⟩) hbl').trans c0; have q1 := (hSq.cell (p := ⟨bb, bo + j * 7 + 1, none⟩) hbl').trans c1; have q2 := (hSq.cell (p := ⟨bb, bo + j * 7 + 2, none⟩) hbl').trans c2; have q3 := (hSq.cell (p := ⟨bb, bo + j * 7 + 3, none⟩) hbl').trans c3; go_simp <;> first | with_reducible rfl | rfl)
          simp only [Act.put, List.setIfInBounds_toArray, List.set_cons_zero, List.set_cons_succ]
          refine take_on (i := 16) (v := ?_) rfl rfl (by kernel_rfl) (by kernel_rfl) (by kernel_rfl) (fun _ _ _ h => h) rfl ?_ hHeld ?_
          rotate_left
          · (intro wq hSq; have p0 := (hSq.cell (p := ⟨D, 0, none⟩) hDl).trans f0; have q0 := (hSq.cell (p := ⟨bb, bo + j * 7, none⟩) hbl').trans c0; have q1 := (hSq.cell (p := ⟨bb, bo + j * 7 + 1, none⟩) hbl').trans c1; have q2 := (hSq.cell (p := ⟨bb, bo + j * 7 + 2, none⟩) hbl').trans c2; have q3 := (hSq.cell (p := ⟨bb, bo + j * 7 + 3, none⟩) hbl').trans c3; go_simp <;> first | with_reducible rfl | rfl)
          simp only [Act.put, List.setIfInBounds_toArray, List.set_cons_zero, List.set_cons_succ]
          refine take_on (i := 17) (v := ?_) rfl rfl (by kernel_rfl) (by kernel_rfl) (by kernel_rfl) (fun _ _ _ h => h) rfl ?_ hHeld ?_
          rotate_left
          · (intro wq hSq; have p0 := (hSq.cell (p := ⟨D, 0, none⟩) hDl).trans f0; have q0 := (hSq.cell (p := ⟨bb, bo + j * 7, none⟩) hbl').trans c0; have q1 := (hSq.cell (p := ⟨bb, bo + j * 7 + 1, none⟩) hbl').trans c1; have q2 := (hSq.cell (p := ⟨bb, bo + j * 7 + 2, none⟩) hbl').trans c2; have q3 := (hSq.cell (p := ⟨bb, bo + j * 7 + 3, none⟩) hbl').trans c3; go_simp <;> first | with_reducible rfl | rfl)
          simp only [Act.put, List.setIfInBounds_toArray, List.set_cons_zero, List.set_cons_succ]
          refine take_on (i := 18) (v := ?_) rfl rfl (by kernel_rfl) (by kernel_rfl) (by kernel_rfl) (fun _ _ _ h => h) rfl ?_ hHeld ?_
          rotate_left
          · (intro wq hSq; have p0 := (hSq.cell (p := ⟨D, 0, none⟩) hDl).trans f0; have q0 := (hSq.cell (p := ⟨bb, bo + j * 7, none⟩) hbl').trans c0; have q1 := (hSq.cell (p := ⟨bb, bo + j * 7 + 1, none⟩) hbl').trans c1; have q2 := (hSq.cell (p := ⟨bb, bo + j * 7 + 2, none⟩) hbl').trans c2; have q3 := (hSq.cell (p := ⟨bb, bo + j * 7 + 3, none⟩) hbl').trans c3; go_simp <;> first | with_reducible rfl | rfl)
          simp only [Act.put, List.setIfInBounds_toArray, List.set_cons_zero, List.set_cons_succ]
          refine take_on (i := 19) (v := ?_) rfl rfl (by kernel_rfl) (by kernel_rfl) (by kernel_rfl) (fun _ _ _ h => h) rfl ?_ hHeld ?_
          rotate_left
          · (intro wq hSq; have p0 := (hSq.cell (p := ⟨D, 0, none⟩) hDl).trans f0; have q0 := (hSq.cell (p := ⟨bb, bo + j * 7, none⟩) hbl').trans c0; have q1 := (hSq.cell (p := ⟨bb, bo + j * 7 + 1, none⟩) hbl').trans c1; have q2 := (hSq.cell (p := ⟨bb, bo + j * 7 + 2, none⟩) hbl').trans c2; have q3 := (hSq.cell (p := ⟨bb, bo + j * 7 + 3, none⟩) hbl').trans c3; go_simp <;> first | with_reducible rfl | rfl)
          simp only [Act.put, List.setIfInBounds_toArray, List.set_cons_zero, List.set_cons_succ]
          refine take_on (i := 20) (v := ?_) rfl rfl (by kernel_rfl) (by kernel_rfl) (by kernel_rfl) (fun _ _ _ h => h) rfl ?_ hHeld ?_
          rotate_left
          · (intro wq hSq; have p0 := (hSq.cell (p := ⟨D, 0, none⟩) hDl).trans f0; have q0 := (hSq.cell (p := ⟨bb, bo + j * 7, none⟩) hbl').trans c0; have q1 := (hSq.cell (p := ⟨bb, bo + j * 7 + 1, none⟩) hbl').trans c1; have q2 := (hSq.cell (p := ⟨bb, bo + j * 7 + 2, none⟩) hbl').trans c2; have q3 := (hSq.cell (p := ⟨bb, bo + j * 7 + 3, none⟩) hbl').trans c3; go_simp <;> first | with_reducible rfl | rfl)
          simp only [Act.put, List.setIfInBounds_toArray, List.set_cons_zero, List.set_cons_succ]
          refine take_on (i := 21) (v := ?_) rfl rfl (by kernel_rfl) (by kernel_rfl) (by kernel_rfl) (fun _ _ _ h => h) rfl ?_ hHeld ?_
          rotate_left
          · (intro wq hSq; have p0 := (hSq.cell (p := ⟨D, 0, none⟩) hDl).trans f0; have q0 := (hSq.cell (p := ⟨bb, bo + j * 7, none⟩) hbl').trans c0; have q1 := (hSq.cell (p := ⟨bb, bo + j * 7 + 1, none⟩) hbl').trans c1; have q2 := (hSq.cell (p := ⟨bb, bo + j * 7 + 2, none⟩) hbl').trans c2; have q3 := (hSq.cell (p := ⟨bb, bo + j * 7 + 3, none⟩) hbl').trans c3; go_simp <;> first | with_reducible rfl | rfl)
          simp only [Act.put, List.setIfInBounds_toArray, List.set_cons_zero, List.set_cons_succ]
          refine take_on (i := 22) (v := ?_) rfl rfl (by kernel_rfl) (by kernel_rfl) (by kernel_rfl) (fun _ _ _ h => h) rfl ?_ hHeld ?_
          rotate_left
          · (intro wq hSq; have p0 := (hSq.cell (p := ⟨D, 0, none⟩) hDl).trans f0; have q0 := (hSq.cell (p := ⟨bb, bo + j * 7, none⟩) hbl').trans c0; have q1 := (hSq.cell (p := ⟨bb, bo + j * 7 + 1, none⟩) hbl').trans c1; have q2 := (hSq.cell (p := ⟨bb, bo + j * 7 + 2, none⟩) hbl').trans c2; have q3 := (hSq.cell (p := ⟨bb, bo + j * 7 + 3, none⟩) hbl').trans c3; go_simp <;> first | with_reducible rfl | rfl)
          simp only [Act.put, List.setIfInBounds_toArray, List.set_cons_zero, List.set_cons_succ]
          refine take_on (i := 23) (v := ?_) rfl rfl (by kernel_rfl) (by kernel_rfl) (by kernel_rfl) (fun _ _ _ h => h) rfl ?_ hHeld ?_
          rotate_left
          · (intro wq hSq; have p0 := (hSq.cell (p := ⟨D, 0, none⟩) hDl).trans f0; have q0 := (hSq.cell (p := ⟨bb, bo + j * 7, none⟩) hbl').trans c0; have q1 := (hSq.cell (p := ⟨bb, bo + j * 7 + 1, none⟩) hbl').trans c1; have q2 := (hSq.cell (p := ⟨bb, bo + j * 7 + 2, none⟩) hbl').trans c2; have q3 := (hSq.cell (p := ⟨bb, bo + j * 7 + 3, none⟩) hbl').trans c3; go_simp <;> first | with_reducible rfl | rfl)
          simp only [Act.put, List.setIfInBounds_toArray, List.set_cons_zero, List.set_cons_succ]
          refine take_on (i := 24) (v := ?_) rfl rfl (by kernel_rfl) (by kernel_rfl) (by kernel_rfl) (fun _ _ _ h => h) rfl ?_ hHeld ?_
          rotate_left
          · (intro wq hSq; have p0 := (hSq.cell (p := ⟨D, 0, none⟩) hDl).trans f0; have q0 := (hSq.cell (p := ⟨bb, bo + j * 7, none⟩) hbl').trans c0; have q1 := (hSq.cell (p := ⟨bb, bo + j * 7 + 1, none⟩) hbl').trans c1; have q2 := (hSq.cell (p := ⟨bb, bo + j * 7 + 2, none⟩) hbl').trans c2; have q3 := (hSq.cell (p := ⟨bb, bo + j * 7 + 3, none⟩) hbl').trans c3; go_simp <;> first | with_reducible rfl | rfl)
          simp only [Act.put, List.setIfInBounds_toArray, List.set_cons_zero, List.set_cons_succ]
          refine take_on (i := 25) (v := ?_) rfl rfl (by kernel_rfl) (by kernel_rfl) (by kernel_rfl) (fun _ _ _ h => h) rfl ?_ hHeld ?_
          rotate_left
          · (intro wq hSq; have p0 := (hSq.cell (p := ⟨D, 0, none⟩) hDl).trans f0; have q0 := (hSq.cell (p := ⟨bb, bo + j * 7, none⟩) hbl').trans c0; have q1 := (hSq.cell (p := ⟨bb, bo + j * 7 + 1, none⟩) hbl').trans c1; have q2 := (hSq.cell (p := ⟨bb, bo + j * 7 + 2, none⟩) hbl').trans c2; have q3 := (hSq.cell (p := ⟨bb, bo + j * 7 + 3, none⟩) hbl').trans c3; go_simp <;> first | with_reducible rfl | rfl)
          simp only [Act.put, List.setIfInBounds_toArray, List.set_cons_zero, List.set_cons_succ]
          refine take_on (i := 26) (v := ?_) rfl rfl (by kernel_rfl) (by kernel_rfl) (by kernel_rfl) (fun _ _ _ h => h) rfl ?_ hHeld ?_
          rotate_left
          · (intro wq hSq; have p0 := (hSq.cell (p := ⟨D, 0, none⟩) hDl).trans f0; have q0 := (hSq.cell (p := ⟨bb, bo + j * 7, none⟩) hbl').trans c0; have q1 := (hSq.cell (p := ⟨bb, bo + j * 7 + 1, none⟩) hbl').trans c1; have q2 := (hSq.cell (p := ⟨bb, bo + j * 7 + 2, none⟩) hbl').trans c2; have q3 := (hSq.cell (p := ⟨bb, bo + j * 7 + 3, none⟩) hbl').trans c3; go_simp <;> first | with_reducible rfl | rfl)
          simp only [Act.put, List.setIfInBounds_toArray, List.set_cons_zero, List.set_cons_succ]
          refine take_on (i := 27) (v := ?_) rfl rfl (by kernel_rfl) (by kernel_rfl) (by kernel_rfl) (fun _ _ _ h => h) rfl ?_ hHeld ?_
          rotate_left
          · (intro wq hSq; have p0 := (hSq.cell (p := ⟨D, 0, none⟩) hDl).trans f0; have q0 := (hSq.cell (p := ⟨bb, bo + j * 7, none⟩) hbl').trans c0; have q1 := (hSq.cell (p := ⟨bb, bo + j * 7 + 1, none⟩) hbl').trans c1; have q2 := (hSq.cell (p := ⟨bb, bo + j * 7 + 2, none⟩) hbl').trans c2; have q3 := (hSq.cell (p := ⟨bb, bo + j * 7 + 3, none⟩) hbl').trans c3; go_simp <;> first | with_reducible rfl | rfl)
          simp only [Act.put, List.setIfInBounds_toArray, List.set_cons_zero, List.set_cons_succ]
          refine take_on (i := 28) (v := ?_) rfl rfl (by kernel_rfl) (by kernel_rfl) (by kernel_rfl) (fun _ _ _ h => h) rfl ?_ hHeld ?_
          rotate_left
          · (intro wq hSq; have p0 := (hSq.cell (p := ⟨D, 0, none⟩) hDl).trans f0; have q0 := (hSq.cell (p := ⟨bb, bo + j * 7, none⟩) hbl').trans c0; have q1 := (hSq.cell (p := ⟨bb, bo + j * 7 + 1, none⟩) hbl').trans c1; have q2 := (hSq.cell (p := ⟨bb, bo + j * 7 + 2, none⟩) hbl').trans c2; have q3 := (hSq.cell (p := ⟨bb, bo + j * 7 + 3, none⟩) hbl').trans c3; go_simp <;> first | with_reducible rfl | rfl)
          simp only [Act.put, List.setIfInBounds_toArray, List.set_cons_zero, List.set_cons_succ]
          refine take_on (i := 29) (v := ?_) rfl rfl (by kernel_rfl) (by kernel_rfl) (by kernel_rfl) (fun _ _ _ h => h) rfl ?_ hHeld ?_
          rotate_left
          · (intro wq hSq; have p0 := (hSq.cell (p := ⟨D, 0, none⟩) hDl).trans f0; have q0 := (hSq.cell (p := ⟨bb, bo + j * 7, none⟩) hbl').trans c0; have q1 := (hSq.cell (p := ⟨bb, bo + j * 7 + 1, none⟩) hbl').trans c1; have q2 := (hSq.cell (p := ⟨bb, bo + j * 7 + 2, none⟩) hbl').trans c2; have q3 := (hSq.cell (p := ⟨bb, bo + j * 7 + 3, none⟩) hbl').trans c3; go_simp <;> first | with_reducible rfl | rfl)
          simp only [Act.put, List.setIfInBounds_toArray, List.set_cons_zero, List.set_cons_succ]
          refine take_on (i := 30) (v := ?_) rfl rfl (by kernel_rfl) (by kernel_rfl) (by kernel_rfl) (fun _ _ _ h => h) rfl ?_ hHeld ?_
          rotate_left
          · (intro wq hSq; have p0 := (hSq.cell (p := ⟨D, 0, none⟩) hDl).trans f0; have q0 := (hSq.cell (p := ⟨bb, bo + j * 7, none⟩) hbl').trans c0; have q1 := (hSq.cell (p := ⟨bb, bo + j * 7 + 1, none⟩) hbl').trans c1; have q2 := (hSq.cell (p := ⟨bb, bo + j * 7 + 2, none⟩) hbl').trans c2; have q3 := (hSq.cell (p := ⟨bb, bo + j * 7 + 3, none⟩) hbl').trans c3; go_simp <;> first | with_reducible rfl | rfl)
          simp only [Act.put, List.setIfInBounds_toArray, List.set_cons_zero, List.set_cons_succ]
          refine take_on (i := 31) (v := ?_) rfl rfl (by kernel_rfl) (by kernel_rfl) (by kernel_rfl) (fun _ _ _ h => h) rfl ?_ hHeld ?_
          rotate_left
          · (intro wq hSq; have p0 := (hSq.cell (p := ⟨D, 0, none⟩) hDl).trans f0; have q0 := (hSq.cell (p := ⟨bb, bo + j * 7, none⟩) hbl').trans c0; have q1 := (hSq.cell (p := ⟨bb, bo + j * 7 + 1, none⟩) hbl').trans c1; have q2 := (hSq.cell (p := ⟨bb, bo + j * 7 + 2, none⟩) hbl').trans c2; have q3 := (hSq.cell (p := ⟨bb, bo + j * 7 + 3, none⟩) hbl').trans c3; go_simp <;> first | with_reducible rfl | rfl)
          simp only [Act.put, List.setIfInBounds_toArray, List.set_cons_zero, List.set_cons_succ]
          refine take_on (i := 32) (v := ?_) rfl rfl (by kernel_rfl) (by kernel_rfl) (by kernel_rfl) (fun _ _ _ h => h) rfl ?_ hHeld ?_
          rotate_left
          · (intro wq hSq; have p0 := (hSq.cell (p := ⟨D, 0, none⟩) hDl).trans f0; have q0 := (hSq.cell (p := ⟨bb, bo + j * 7, none⟩) hbl').trans c0; have q1 := (hSq.cell (p := ⟨bb, bo + j * 7 + 1, none⟩) hbl').trans c1; have q2 := (hSq.cell (p := ⟨bb, bo + j * 7 + 2, none⟩) hbl').trans c2; have q3 := (hSq.cell (p := ⟨bb, bo + j * 7 + 3, none⟩) hbl').trans c3; go_simp <;> first | with_reducible rfl | rfl)
          simp only [Act.put, List.setIfInBounds_toArray, List.set_cons_zero, List.set_cons_succ]
          refine take_on (i := 33) (v := ?_) rfl rfl (by kernel_rfl) (by kernel_rfl) (by kernel_rfl) (fun _ _ _ h => h) rfl ?_ hHeld ?_
          rotate_left
          · (intro wq hSq; have p0 := (hSq.cell (p := ⟨D, 0, none⟩) hDl).trans f0; have q0 := (hSq.cell (p := ⟨bb, bo + j * 7, none⟩) hbl').trans c0; have q1 := (hSq.cell (p := ⟨bb, bo + j * 7 + 1, none⟩) hbl').trans c1; have q2 := (hSq.cell (p := ⟨bb, bo + j * 7 + 2, none⟩) hbl').trans c2; have q3 := (hSq.cell (p := ⟨bb, bo + j * 7 + 3, none⟩) hbl').trans c3; go_simp <;> first | with_reducible rfl | rfl)
          simp only [Act.put, List.setIfInBounds_toArray, List.set_cons_zero, List.set_cons_succ]
          refine take_on (i := 34) (v := ?_) rfl rfl (by kernel_rfl) (by kernel_rfl) (by kernel_rfl) (fun _ _ _ h => h) rfl ?_ hHeld ?_
          rotate_left
          · (intro wq hSq; have p0 := (hSq.cell (p := ⟨D, 0, none⟩) hDl).trans f0; have q0 := (hSq.cell (p := ⟨bb, bo + j * 7, none⟩) hbl').trans c0; have q1 := (hSq.cell (p := ⟨bb, bo + j * 7 + 1, none⟩) hbl').trans c1; have q2 := (hSq.cell (p := ⟨bb, bo + j * 7 + 2, none⟩) hbl').trans c2; have q3 := (hSq.cell (p := ⟨bb, bo + j * 7 + 3, none⟩) hbl').trans c3; go_simp <;> first | with_reducible rfl | rfl)
          simp only [Act.put, List.setIfInBounds_toArray, List.set_cons_zero, List.set_cons_succ]
          refine take_on (i := 35) (v := ?_) rfl rfl (by kernel_rfl) (by kernel_rfl) (by kernel_rfl) (fun _ _ _ h => h) rfl ?_ hHeld ?_
          rotate_left
          · (intro wq hSq; have p0 := (hSq.cell (p := ⟨D, 0, none⟩) hDl).trans f0; have q0 := (hSq.cell (p := ⟨bb, bo + j * 7, none⟩) hbl').trans c0; have q1 := (hSq.cell (p := ⟨bb, bo + j * 7 + 1, none⟩) hbl').trans c1; have q2 := (hSq.cell (p := ⟨bb, bo + j * 7 + 2, none⟩) hbl').trans c2; have q3 := (hSq.cell (p := ⟨bb, bo + j * 7 + 3, none⟩) hbl').trans c3; go_simp <;> first | with_reducible rfl | rfl)
          simp only [Act.put, List.setIfInBounds_toArray, List.set_cons_zero, List.set_cons_succ]
          refine take_one (i := 36) rfl (by kernel_rfl) (fun K hK => ?_)
          go_simp
          refine (hq1.out _ hHeld).mono ?_; rintro e z1 ⟨rfl, hz1⟩; have hZ1 := hide_it (hHeld.trans (hz1.mono hHeld.size)); clear hz1
          try go_wp2_with fail
          refine hK.out _ _ ?_ (fun hHeld => ?_)
          · exact hZ1.out
          clear hK K
          try simp only [Act.put, List.setIfInBounds_toArray, List.set_cons_zero, List.set_cons_succ]
          refine take_on (i := 37) (v := ?_) rfl rfl (by kernel_rfl) (by kernel_rfl) (by kernel_rfl) (fun _ _ _ h => h) rfl ?_ hHeld ?_
          rotate_left
          · (intro wq hSq; have p0 := (hSq.cell (p := ⟨D, 0, none⟩) hDl).trans f0; have q0 := (hSq.cell (p := ⟨bb, bo + j * 7, none⟩) hbl').trans c0; have q1 := (hSq.cell (p := ⟨bb, bo + j * 7 + 1, none⟩) hbl').trans c1; have q2 := (hSq.cell (p := ⟨bb, bo + j * 7 + 2, none⟩) hbl').trans c2; have q3 := (hSq.cell (p := ⟨bb, bo + j * 7 + 3, none⟩) hbl').trans c3; go_simp <;> first | with_reducible rfl | rfl)
          simp only [Act.put, List.setIfInBounds_toArray, List.set_cons_zero, List.set_cons_succ]
          refine take_on (i := 38) (v := ?_) rfl rfl (by kernel_rfl) (by kernel_rfl) (by kernel_rfl) (fun _ _ _ h => h) rfl ?_ hHeld ?_
          rotate_left
          · (intro wq hSq; have p0 := (hSq.cell (p := ⟨D, 0, none⟩) hDl).trans f0; have q0 := (hSq.cell (p := ⟨bb, bo + j * 7, none⟩) hbl').trans c0; have q1 := (hSq.cell (p := ⟨bb, bo + j * 7 + 1, none⟩) hbl').trans c1; have q2 := (hSq.cell (p := ⟨bb, bo + j * 7 + 2, none⟩) hbl').trans c2; have q3 := (hSq.cell (p := ⟨bb, bo + j * 7 + 3, none⟩) hbl').trans c3; go_simp <;> first | with_reducible rfl | rfl)
          simp only [Act.put, List.setIfInBounds_toArray, List.set_cons_zero, List.set_cons_succ]
          refine take_on (i := 39) (v := ?_) rfl rfl (by kernel_rfl) (by kernel_rfl) (by kernel_rfl) (fun _ _ _ h => h) rfl ?_ hHeld ?_
          rotate_left
          · (intro wq hSq; have p0 := (hSq.cell (p := ⟨D, 0, none⟩) hDl).trans f0; have q0 := (hSq.cell (p := ⟨bb, bo + j * 7, none⟩) hbl').trans c0; have q1 := (hSq.cell (p := ⟨bb, bo + j * 7 + 1, none⟩) hbl').trans c1; have q2 := (hSq.cell (p := ⟨bb, bo + j * 7 + 2, none⟩) hbl').trans c2; have q3 := (hSq.cell (p := ⟨bb, bo + j * 7 + 3, none⟩) hbl').trans c3; go_simp <;> first | with_reducible rfl | rfl)
          simp only [Act.put, List.setIfInBounds_toArray, List.set_cons_zero, List.set_cons_succ]
          refine take_on (i := 40) (v := ?_) rfl rfl (by kernel_rfl) (by kernel_rfl) (by kernel_rfl) (fun _ _ _ h => h) rfl ?_ hHeld ?_
          rotate_left
          · (intro wq hSq; have p0 := (hSq.cell (p := ⟨D, 0, none⟩) hDl).trans f0; have q0 := (hSq.cell (p := ⟨bb, bo + j * 7, none⟩) hbl').trans c0; have q1 := (hSq.cell (p := ⟨bb, bo + j * 7 + 1, none⟩) hbl').trans c1; have q2 := (hSq.cell (p := ⟨bb, bo + j * 7 + 2, none⟩) hbl').trans c2; have q3 := (hSq.cell (p := ⟨bb, bo + j * 7 + 3, none⟩) hbl').trans c3; go_simp <;> first | with_reducible rfl | rfl)
          simp only [Act.put, List.setIfInBounds_toArray, List.set_cons_zero, List.set_cons_succ]
          refine take_on (i := 41) (v := ?_) rfl rfl (by kernel_rfl) (by kernel_rfl) (by kernel_rfl) (fun _ _ _ h => h) rfl ?_ hHeld ?_
          rotate_left
          · (intro wq hSq; have p0 := (hSq.cell (p := ⟨D, 0, none⟩) hDl).trans f0; have q0 := (hSq.cell (p := ⟨bb, bo + j * 7, none⟩) hbl').trans c0; have q1 := (hSq.cell (p := ⟨bb, bo + j * 7 + 1, none⟩) hbl').trans c1; have q2 := (hSq.cell (p := ⟨bb, bo + j * 7 + 2, none⟩) hbl').trans c2; have q3 := (hSq.cell (p := ⟨bb, bo + j * 7 + 3, none⟩) hbl').trans c3; go_simp <;> first | with_reducible rfl | rfl)
          simp only [Act.put, List.setIfInBounds_toArray, List.set_cons_zero, List.set_cons_succ]
          refine take_on (i := 43) (v := ?_) rfl rfl (by kernel_rfl) (by kernel_rfl) (by kernel_rfl) (fun _ _ _ h => h) rfl ?_ hHeld ?_
          rotate_left
          · (intro wq hSq; have p0 := (hSq.cell (p := ⟨D, 0, none⟩) hDl).trans f0; have q0 := (hSq.cell (p := ⟨bb, bo + j * 7, none⟩) hbl').trans c0; have q1 := (hSq.cell (p := ⟨bb, bo + j * 7 + 1, none⟩) hbl').trans c1; have q2 := (hSq.cell (p := ⟨bb, bo + j * 7 + 2, none⟩) hbl').trans c2; have q3 := (hSq.cell (p := ⟨bb, bo + j * 7 + 3, none⟩) hbl').trans c3; go_simp <;> first | with_reducible rfl | rfl)
          simp only [Act.put, List.setIfInBounds_toArray, List.set_cons_zero, List.set_cons_succ]
          refine take_on (i := 44) (v := ?_) rfl rfl (by kernel_rfl) (by kernel_rfl) (by kernel_rfl) (fun _ _ _ h => h) rfl ?_ hHeld ?_
          rotate_left
          · (intro wq hSq; have p0 := (hSq.cell (p := ⟨D, 0, none⟩) hDl).trans f0; have q0 := (hSq.cell (p := ⟨bb, bo + j * 7, none⟩) hbl').trans c0; have q1 := (hSq.cell (p := ⟨bb, bo + j * 7 + 1, none⟩) hbl').trans c1; have q2 := (hSq.cell (p := ⟨bb, bo + j * 7 + 2, none⟩) hbl').trans c2; have q3 := (hSq.cell (p := ⟨bb, bo + j * 7 + 3, none⟩) hbl').trans c3; go_simp <;> first | with_reducible rfl | rfl)
          simp only [Act.put, List.setIfInBounds_toArray, List.set_cons_zero, List.set_cons_succ]
          refine take_on (i := 45) (v := ?_) rfl rfl (by kernel_rfl) (by kernel_rfl) (by kernel_rfl) (fun _ _ _ h => h) rfl ?_ hHeld ?_
          rotate_left
          · (intro wq hSq; have p0 := (hSq.cell (p := ⟨D, 0, none⟩) hDl).trans f0; have q0 := (hSq.cell (p := ⟨bb, bo + j * 7, none⟩) hbl').trans c0; have q1 := (hSq.cell (p := ⟨bb, bo + j * 7 + 1, none⟩) hbl').trans c1; have q2 := (hSq.cell (p := ⟨bb, bo + j * 7 + 2, none⟩) hbl').trans c2; have q3 := (hSq.cell (p := ⟨bb, bo + j * 7 + 3, none⟩) hbl').trans c3; go_simp <;> first | with_reducible rfl | rfl)
          simp only [Act.put, List.setIfInBounds_toArray, List.set_cons_zero, List.set_cons_succ]
          refine take_on (i := 46) (v := ?_) rfl rfl (by kernel_rfl) (by kernel_rfl) (by kernel_rfl) (fun _ _ _ h => h) rfl ?_ hHeld ?_
          rotate_left
          · (intro wq hSq; have p0 := (hSq.cell (p := ⟨D, 0, none⟩) hDl).trans f0; have q0 := (hSq.cell (p := ⟨bb, bo + j * 7, none⟩) hbl').trans c0; have q1 := (hSq.cell (p := ⟨bb, bo + j * 7 + 1, none⟩) hbl').trans c1; have q2 := (hSq.cell (p := ⟨bb, bo + j * 7 + 2, none⟩) hbl').trans c2; have q3 := (hSq.cell (p := ⟨bb, bo + j * 7 + 3, none⟩) hbl').trans c3; go_simp <;> first | with_reducible rfl | rfl)
          simp only [Act.put, List.setIfInBounds_toArray, List.set_cons_zero, List.set_cons_succ]
          refine take_on (i := 47) (v := ?_) rfl rfl (by kernel_rfl) (by kernel_rfl) (by kernel_rfl) (fun _ _ _ h => h) rfl ?_ hHeld ?_
          rotate_left
          · (intro wq hSq; have p0 := (hSq.cell (p := ⟨D, 0, none⟩) hDl).trans f0; have q0 := (hSq.cell (p := ⟨bb, bo + j * 7, none⟩) hbl').trans c0; have q1 := (hSq.cell (p := ⟨bb, bo + j * 7 + 1, none⟩) hbl').trans c1; have q2 := (hSq.cell (p := ⟨bb, bo + j * 7 + 2, none⟩) hbl').trans c2; have q3 := (hSq.cell (p := ⟨bb, bo + j * 7 + 3, none⟩) hbl').trans c3; go_simp <;> first | with_reducible rfl | rfl)
          simp only [Act.put, List.setIfInBounds_toArray, List.set_cons_zero, List.set_cons_succ]
          refine take_on (i := 48) (v := ?_) rfl rfl (by kernel_rfl) (by kernel_rfl) (by kernel_rfl) (fun _ _ _ h => h) rfl ?_ hHeld ?_
          rotate_left
          · (intro wq hSq; have p0 := (hSq.cell (p := ⟨D, 0, none⟩) hDl).trans f0; have q0 := (hSq.cell (p := ⟨bb, bo + j * 7, none⟩) hbl').trans c0; have q1 := (hSq.cell (p := ⟨bb, bo + j * 7 + 1, none⟩) hbl').trans c1; have q2 := (hSq.cell (p := ⟨bb, bo + j * 7 + 2, none⟩) hbl').trans c2; have q3 := (hSq.cell (p := ⟨bb, bo + j * 7 + 3, none⟩) hbl').trans c3; go_simp <;> first | with_reducible rfl | rfl)
          simp only [Act.put, List.setIfInBounds_toArray, List.set_cons_zero, List.set_cons_succ]
          refine take_one (i := 42) rfl (by kernel_rfl) (fun K hK => ?_)
          go_simp
          refine (hq2.out _ hHeld).mono ?_; rintro e z2 ⟨rfl, hq⟩; have hqq := hq.symm; subst hqq; clear hq
          try go_wp2_with fail
          refine hK.out _ _ ?_ (fun hHeld => ?_)
          · exact hHeld
          clear hK K
          try simp only [Act.put, List.setIfInBounds_toArray, List.set_cons_zero, List.set_cons_succ]
          refine take_on (i := 49) (v := ?_) rfl rfl (by kernel_rfl) (by kernel_rfl) (by kernel_rfl) (fun _ _ _ h => h) rfl ?_ hHeld ?_
          rotate_left
          · (intro wq hSq; have p0 := (hSq.cell (p := ⟨D, 0, none⟩) hDl).trans f0; have q0 := (hSq.cell (p := ⟨bb, bo + j * 7, none⟩) hbl').trans c0; have q1 := (hSq.cell (p := ⟨bb, bo + j * 7 + 1, none⟩) hbl').trans c1; have q2 := (hSq.cell (p := ⟨bb, bo + j * 7 + 2, none⟩) hbl').trans c2; have q3 := (hSq.cell (p := ⟨bb, bo + j * 7 + 3, none⟩) hbl').trans c3; go_simp <;> first | with_reducible rfl | rfl)
          simp only [Act.put, List.setIfInBounds_toArray, List.set_cons_zero, List.set_cons_succ]
          refine take_on (i := 50) (v := ?_) rfl rfl (by kernel_rfl) (by kernel_rfl) (by kernel_rfl) (fun _ _ _ h => h) rfl ?_ hHeld ?_
          rotate_left
          · (intro wq hSq; have p0 := (hSq.cell (p := ⟨D, 0, none⟩) hDl).trans f0; have q0 := (hSq.cell (p := ⟨bb, bo + j * 7, none⟩) hbl').trans c0; have q1 := (hSq.cell (p := ⟨bb, bo + j * 7 + 1, none⟩) hbl').trans c1; have q2 := (hSq.cell (p := ⟨bb, bo + j * 7 + 2, none⟩) hbl').trans c2; have q3 := (hSq.cell (p := ⟨bb, bo + j * 7 + 3, none⟩) hbl').trans c3; go_simp <;> first | with_reducible rfl | rfl)
          simp only [Act.put, List.setIfInBounds_toArray, List.set_cons_zero, List.set_cons_succ]
          refine wpAnyH_done (by kernel_rfl) ?_ _
          have hB3 := hide_it (hB2.out.below hHeld)
          clear hq1 hq2 hB2 hZ1 c0 c1 c2 c3 f0 f1
          go_wp2_with fail
          exact ⟨⟨j + 1, by omega, by go_num, hB3.out⟩, by simp [intOf]; omega⟩
        · have hd2 : decide ((j : Int) < (n : Int)) = false := by simp; omega
          have hI1 : Hid (∀ W, Below wr.heap.size wr W → Calls Try.prog 33 #[.pointer (some ⟨p, 0, none⟩)] W fun e w' => ImgD W n (safeT s) e w') := fun W h => imageD_ok (hB.out.below h).dsk
          have hI2 : Hid (∀ W, Below wr.heap.size wr W → Calls Try.prog 50 #[valD (some ⟨bb, bo, none⟩) n c am] W fun e w' => (∃ r cr, e = .returned (.slice r n cr) ∧ RowT w' W.heap.size r n (safeT s) ∧ n ≤ cr) ∧ Below W.heap.size W w') := fun W h => imageR (hB.out.below h).doc
          have hI3 : Hid (∀ W, Below wr.heap.size wr W → Calls Try.prog 51 #[.pointer (some ⟨p, 0, none⟩)] W fun e w' => e = .returned (.int .i64 (n : Int)) ∧ w' = W) := fun W h => areas_ok (hB.out.below h).dsk
          have hsl : Hid (∀ i, i < n → (safeT s i).2.length ≤ 211106232532800) := fun i hi => by
            have := (hB.out.dsk.room i hi).1
            unfold safeT
            simp only [List.length_take]; omega
          obtain ⟨f0, f1, _⟩ := hB.out.box.cells
          have hDl := hB.out.box.lt
          go_wp2_with fail
          refine wp_region_held_drew (S := (fun w' => Below wr.heap.size wr w')) (by kernel_rfl) ?_ (fun hHeld => ?_)
          · exact (Below.refl _ _).drew
          refine take_on (i := 0) (v := ?_) rfl rfl (by kernel_rfl) (by kernel_rfl) (by kernel_rfl) (fun _ _ _ h => h) rfl ?_ hHeld ?_
          rotate_left
          · (intro wq hSq; have p0 := (hSq.cell (p := ⟨D, 0, none⟩) hDl).trans f0; have p1 := (hSq.cell (p := ⟨D, 1, none⟩) hDl).trans f1; go_simp <;> first | with_reducible rfl | rfl)
          simp only [Act.put, List.setIfInBounds_toArray, List.set_cons_zero, List.set_cons_succ]
          refine take_on (i := 2) (v := ?_) rfl rfl (by kernel_rfl) (by kernel_rfl) (by kernel_rfl) (fun _ _ _ h => h) rfl ?_ hHeld ?_
          rotate_left
          · (intro wq hSq; have p0 := (hSq.cell (p := ⟨D, 0, none⟩) hDl).trans f0; have p1 := (hSq.cell (p := ⟨D, 1, none⟩) hDl).trans f1; go_simp <;> first | with_reducible rfl | rfl)
          simp only [Act.put, List.setIfInBounds_toArray, List.set_cons_zero, List.set_cons_succ]
          refine take_one (i := 1) rfl (by kernel_rfl) (fun K hK => ?_)
          go_simp
          refine (hI1.out _ hHeld).mono ?_; rintro e z1 ⟨⟨X1, r1, rfl, hS1⟩, hz1⟩; have hR1 := hide_it hS1.rowT; have hZ1 := hide_it (hHeld.trans (hz1.mono hHeld.size)); clear hz1 hS1
          try go_wp2_with fail
          refine hK.out _ _ ?_ (fun hHeld => ?_)
          · exact hZ1.out
          clear hK K
          try simp only [Act.put, List.setIfInBounds_toArray, List.set_cons_zero, List.set_cons_succ]
          refine take_one (i := 3) rfl (by kernel_rfl) (fun K hK => ?_)
          go_simp
          refine (hI2.out _ hHeld).mono ?_; rintro e z2 ⟨⟨r2, cr, rfl, hS2, _⟩, hz2⟩; replace hR1 := hide_it (hR1.out.below hz2); have hZ2 := hide_it (hHeld.trans (hz2.mono hHeld.size)); replace hS2 := hide_it hS2; clear hz2
          try go_wp2_with fail
          refine hK.out _ _ ?_ (fun hHeld => ?_)
          · exact hZ2.out
          clear hK K
          try simp only [Act.put, List.setIfInBounds_toArray, List.set_cons_zero, List.set_cons_succ]
          refine take_one (i := 4) rfl (by kernel_rfl) (fun K hK => ?_)
          go_simp
          refine (spansAlike_same _ _ n n cr (safeT s) _ _ _ hR1.out hS2.out (by omega) hsl.out).mono ?_; rintro e z3 ⟨rfl, hz3⟩; have hZ3 := hide_it (hHeld.trans (hz3.mono hHeld.size)); clear hz3
          try go_wp2_with fail
          refine hK.out _ _ ?_ (fun hHeld => ?_)
          · exact hZ3.out
          clear hK K
          try simp only [Act.put, List.setIfInBounds_toArray, List.set_cons_zero, List.set_cons_succ]
          refine take_on (i := 5) (v := ?_) rfl rfl (by kernel_rfl) (by kernel_rfl) (by kernel_rfl) (fun _ _ _ h => h) rfl ?_ hHeld ?_
          rotate_left
          · (intro wq hSq; have p0 := (hSq.cell (p := ⟨D, 0, none⟩) hDl).trans f0; have p1 := (hSq.cell (p := ⟨D, 1, none⟩) hDl).trans f1; go_simp <;> first | with_reducible rfl | rfl)
          simp only [Act.put, List.setIfInBounds_toArray, List.set_cons_zero, List.set_cons_succ]
          refine take_on (i := 6) (v := ?_) rfl rfl (by kernel_rfl) (by kernel_rfl) (by kernel_rfl) (fun _ _ _ h => h) rfl ?_ hHeld ?_
          rotate_left
          · (intro wq hSq; have p0 := (hSq.cell (p := ⟨D, 0, none⟩) hDl).trans f0; have p1 := (hSq.cell (p := ⟨D, 1, none⟩) hDl).trans f1; go_simp <;> first | with_reducible rfl | rfl)
          simp only [Act.put, List.setIfInBounds_toArray, List.set_cons_zero, List.set_cons_succ]
          refine take_on (i := 8) (v := ?_) rfl rfl (by kernel_rfl) (by kernel_rfl) (by kernel_rfl) (fun _ _ _ h => h) rfl ?_ hHeld ?_
          rotate_left
          · (intro wq hSq; have p0 := (hSq.cell (p := ⟨D, 0, none⟩) hDl).trans f0; have p1 := (hSq.cell (p := ⟨D, 1, none⟩) hDl).trans f1; go_simp <;> first | with_reducible rfl | rfl)
          simp only [Act.put, List.setIfInBounds_toArray, List.set_cons_zero, List.set_cons_succ]
          refine take_on (i := 9) (v := ?_) rfl rfl (by kernel_rfl) (by kernel_rfl) (by kernel_rfl) (fun _ _ _ h => h) rfl ?_ hHeld ?_
          rotate_left
          · (intro wq hSq; have p0 := (hSq.cell (p := ⟨D, 0, none⟩) hDl).trans f0; have p1 := (hSq.cell (p := ⟨D, 1, none⟩) hDl).trans f1; go_simp <;> first | with_reducible rfl | rfl)
          simp only [Act.put, List.setIfInBounds_toArray, List.set_cons_zero, List.set_cons_succ]
          refine take_on (i := 10) (v := ?_) rfl rfl (by kernel_rfl) (by kernel_rfl) (by kernel_rfl) (fun _ _ _ h => h) rfl ?_ hHeld ?_
          rotate_left
          · (intro wq hSq; have p0 := (hSq.cell (p := ⟨D, 0, none⟩) hDl).trans f0; have p1 := (hSq.cell (p := ⟨D, 1, none⟩) hDl).trans f1; go_simp <;> first | with_reducible rfl | rfl)
          simp only [Act.put, List.setIfInBounds_toArray, List.set_cons_zero, List.set_cons_succ]
          refine take_one (i := 7) rfl (by kernel_rfl) (fun K hK => ?_)
          go_simp
          refine (hI3.out _ hHeld).mono ?_; rintro e z4 ⟨rfl, hq⟩; have hqq := hq.symm; subst hqq; clear hq
          try go_wp2_with fail
          refine hK.out _ _ ?_ (fun hHeld => ?_)
          · exact hHeld
          clear hK K
          try simp only [Act.put, List.setIfInBounds_toArray, List.set_cons_zero, List.set_cons_succ]
          refine take_on (i := 11) (v := ?_) rfl rfl (by kernel_rfl) (by kernel_rfl) (by kernel_rfl) (fun _ _ _ h => h) rfl ?_ hHeld ?_
          rotate_left
          · (intro wq hSq; have p0 := (hSq.cell (p := ⟨D, 0, none⟩) hDl).trans f0; have p1 := (hSq.cell (p := ⟨D, 1, none⟩) hDl).trans f1; go_simp <;> first | with_reducible rfl | rfl)
          simp only [Act.put, List.setIfInBounds_toArray, List.set_cons_zero, List.set_cons_succ]
          refine take_on (i := 12) (v := ?_) rfl rfl (by kernel_rfl) (by kernel_rfl) (by kernel_rfl) (fun _ _ _ h => h) rfl ?_ hHeld ?_
          rotate_left
          · (intro wq hSq; have p0 := (hSq.cell (p := ⟨D, 0, none⟩) hDl).trans f0; have p1 := (hSq.cell (p := ⟨D, 1, none⟩) hDl).trans f1; go_simp <;> first | with_reducible rfl | rfl)
          simp only [Act.put, List.setIfInBounds_toArray, List.set_cons_zero, List.set_cons_succ]
          refine take_on (i := 13) (v := ?_) rfl rfl (by kernel_rfl) (by kernel_rfl) (by kernel_rfl) (fun _ _ _ h => h) rfl ?_ hHeld ?_
          rotate_left
          · (intro wq hSq; have p0 := (hSq.cell (p := ⟨D, 0, none⟩) hDl).trans f0; have p1 := (hSq.cell (p := ⟨D, 1, none⟩) hDl).trans f1; go_simp <;> first | with_reducible rfl | rfl)
          simp only [Act.put, List.setIfInBounds_toArray, List.set_cons_zero, List.set_cons_succ]
          refine wpAnyH_done (by kernel_rfl) ?_ _
          have hend := hide_it (hB.out.below hHeld).bel
          clear hI1 hI2 hI3 hB hR1 hS2 hZ1 hZ2 hZ3 f0 f1
          go_wp2_with fail
          go_ret
          exact ⟨rfl, hend.out⟩
end Go.Proofs.Ytdodnegdpdhbiaa
