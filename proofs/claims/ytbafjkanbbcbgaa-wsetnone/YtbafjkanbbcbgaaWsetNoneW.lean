/- The law on a set that is not there, walked. -/
import Derived.Test.YtbafjkanbbcbgaaXn1
namespace Go.Proofs.Ytbafjkanbbcbgaa.wsetNone
open Go.RowKit Go.Maps Go.Shelf

attribute [local go_sem] Oper.semAt_some

theorem build_zero (w : World) : (Instr.build 41 #[]).run Try.prog w = .ok (.agg #[.string ⟨#[]⟩, .int .i64 0, .slice none 0 0, .bool false]) w := by kernel_rfl

set_option maxRecDepth 100000 in
set_option maxHeartbeats 8000000 in
theorem walk (t : Sq) (w : World) (ht : SqOk w t) :
    Calls Try.prog 6 #[.agg #[.int .i64 t.kind, .string t.key, .string t.to, .slice t.value.a t.value.p.length t.value.c, .slice t.undera t.undern t.underc, .int .i64 t.n]] w fun e w' => e = .returned (.bool true) ∧ Below w.heap.size w w' := by
  have hU := ht.under
  have hV := ht.value
  have hkk := ht.key
  have hus := hU.size
  obtain ⟨kind, key, to, ⟨va, vc, vp⟩, ua, un, uc, A, n⟩ := t
  simp only at hU hV hkk hus ⊢
  clear ht
  have hk : key.size ≤ maxLen := by unfold maxLen; omega
  obtain ⟨us, hUs⟩ : ∃ us, us = pnsOf un A := ⟨_, rfl⟩
  have hlen : un = us.length := by rw [hUs, pnsOf_len]
  have hrow : RowU w ua us := by rw [hUs]; exact hU.rows
  have hval : ∀ x ∈ us, RowB w x.a x.z ∧ (x.a = none → x.z.length = 0 ∧ x.c = 0) := by rw [hUs]; exact hU.rd
  have hkl : ∀ x ∈ us, x.k.size ≤ maxLen := fun x hx => by
    rw [hUs] at hx
    have := hU.kl x hx
    unfold maxLen; omega
  have hul : us.length ≤ 3518437208780 := by omega
  clear hUs hU hus
  rw [hlen]
  obtain ⟨W0, hW0⟩ : ∃ W, W = w.alloc (.cells #[.int .i64 kind, .string key, .string to, .slice va vp.length vc, .slice ua us.length uc, .int .i64 n] 37) := ⟨_, rfl⟩
  have hb0 : Below w.heap.size w W0 := by rw [hW0]; exact (Below.refl _ _).alloc (Nat.le_refl _) _
  have k0 : W0.heap[w.heap.size]? = some (.cells #[.int .i64 kind, .string key, .string to, .slice va vp.length vc, .slice ua us.length uc, .int .i64 n] 37 (0, 0)) := by
    rw [hW0]; exact heap_alloc_new w _
  have g1 := get_none key hk W0
  have q1 := cell_of_row _ _ 1 _ _ _ k0
  have HK0 := hide_it k0
  have HB0 := hide_it hb0
  have HROW := hide_it hrow
  have HVAL := hide_it hval
  have HKL := hide_it hkl
  have HVV := hide_it hV
  have HUL := hide_it hul
  clear hb0 k0 hrow hval hkl hV hlen hul
  go_enter Try.func6, Try.ntmps6
  go_wp2_with fail
  rw [← hW0]
  clear hW0
  refine g1.mono ?_
  rintro e w2 ⟨⟨y, rfl, hy1, hy2, hy3⟩, hb2⟩
  obtain ⟨W2, hW2⟩ : ∃ W, W = w2.alloc (.cells #[.string y.k, .int .i64 y.n, .slice y.a y.z.length y.c, .bool y.d] 41) := ⟨_, rfl⟩
  have hb22 : Below w2.heap.size w2 W2 := by rw [hW2]; exact (Below.refl _ _).alloc (Nat.le_refl _) _
  have hb02 : Below W0.heap.size W0 W2 := hb2.trans (hb22.mono hb2.size)
  have j0 := (hb02.block _ (Array.getElem?_eq_some_iff.1 HK0.out).1).trans HK0.out
  have j1 : W2.heap[w2.heap.size]? = some (.cells #[.string y.k, .int .i64 y.n, .slice y.a y.z.length y.c, .bool y.d] 41 (0, 0)) := by rw [hW2]; exact heap_alloc_new w2 _
  have d1 := cell_of_row _ _ 1 _ _ _ j0
  have d2 := cell_of_row _ _ 2 _ _ _ j0
  have d4 := cell_of_row _ _ 4 _ _ _ j0
  have hb2w : Below w.heap.size w W2 := HB0.out.trans (hb02.mono HB0.out.size)
  have g2 := overL_any none key to ua uc (-1) (F := fun _ => False) (M := []) (us := us) W2 (.inl ⟨rfl, rfl⟩) (fun j h => h.elim) (HROW.out.below hb2w) (by have := HUL.out; simp; omega) HKL.out
  have YN := hide_it hy1.rowN.2
  have Y2 := hide_it (hy1.rowN.1.below hb22)
  have HY3 := hide_it hy3
  have HB2 := hide_it hb2w
  have HB22 := hide_it hb22
  have J0 := hide_it j0
  have J1 := hide_it j1
  rw [hW2] at d1 d2 d4
  clear g1 q1 hy1 hy2 hy3 hb2 hb22 hb02 j0 j1 hb2w
  unfold verV
  go_wp2_with fail
  rw [← hW2]
  clear hW2 d1 d2 d4
  refine Calls.mono g2 ?_
  rintro e w3 ⟨⟨a, m, c, xs, kk, rfl, ho, hv, hcase⟩, hb3⟩
  have hsay : saysP xs = saysP us := by
    rcases hcase with ⟨h, _⟩ | ⟨_, h, _⟩ | ⟨_, h, _⟩
    · cases h
    · exact h.trans (ovA_nil _ _ _)
    · omega
  have hbw3 : Below w.heap.size w w3 := HB2.out.trans (hb3.mono HB2.out.size)
  have hrd : RdP w3 (.slice a m c) xs := .own ho fun x hx => by
    rcases hv x hx with h | h
    · exact ⟨(HVAL.out x h).1.below hbw3, (HVAL.out x h).2⟩
    · exact h.rowN
  have j0 := (hb3.block _ (Array.getElem?_eq_some_iff.1 J0.out).1).trans J0.out
  have j1 := (hb3.block _ (Array.getElem?_eq_some_iff.1 J1.out).1).trans J1.out
  have d1 := cell_of_row _ _ 1 _ _ _ j0
  have d3 := cell_of_row _ _ 3 _ _ _ j0
  have g3 := put_none key va vp.length vc w3
  have HRD := hide_it hrd
  have Y3 := hide_it (Y2.out.below hb3)
  have HSAY := hide_it hsay
  have B3 := hide_it hbw3
  have K0 := hide_it j0
  have K1 := hide_it j1
  clear g2 ho hv hcase hsay hrd hbw3 j0 j1 hb3 J0 J1 Y2
  go_wp2_with fail
  clear d1 d3
  refine Calls.mono g3 ?_
  rintro e w4 ⟨rfl, hb4⟩
  have j0 := (hb4.block _ (Array.getElem?_eq_some_iff.1 K0.out).1).trans K0.out
  have j1 := (hb4.block _ (Array.getElem?_eq_some_iff.1 K1.out).1).trans K1.out
  have d1 := cell_of_row _ _ 1 _ _ _ j0
  have g4 := delete_none key w4
  have B4 := hide_it (B3.out.trans (hb4.mono B3.out.size))
  have R4 := hide_it (HRD.out.below hb4)
  have Y4 := hide_it (Y3.out.below hb4)
  have L0 := hide_it j0
  have L1 := hide_it j1
  clear g3 j0 j1 hb4 K0 K1 HRD Y3
  go_wp2_with fail
  clear d1
  refine Calls.mono g4 ?_
  rintro e w5 ⟨rfl, hb5⟩
  have j0 := (hb5.block _ (Array.getElem?_eq_some_iff.1 L0.out).1).trans L0.out
  have j1 := (hb5.block _ (Array.getElem?_eq_some_iff.1 L1.out).1).trans L1.out
  have e0 := cell_of_row _ _ 0 _ _ _ j1
  have e1 := cell_of_row _ _ 1 _ _ _ j1
  have e2 := cell_of_row _ _ 2 _ _ _ j1
  have e3 := cell_of_row _ _ 3 _ _ _ j1
  have B5 := hide_it (B4.out.trans (hb5.mono B4.out.size))
  have R5 := hide_it (R4.out.below hb5)
  have M0 := hide_it j0
  have Y5 := Y4.out.below hb5
  have hbv := build_zero
  have g5 := sameVersion_same y ⟨⟨#[]⟩, 0, none, [], 0, false⟩ w5 Y5 YN.out (.inl rfl) (fun _ => ⟨rfl, rfl⟩) (HY3.out.trans rfl)
  clear g4 j0 j1 hb5 L0 L1 R4 Y4 Y5 YN HY3
  unfold verV at g5
  go_wp2_with fail
  clear e0 e1 e2 e3 hbv
  refine Calls.mono g5 ?_
  rintro e w6 ⟨rfl, hb6⟩
  have j0 := (hb6.block _ (Array.getElem?_eq_some_iff.1 M0.out).1).trans M0.out
  have d1 := cell_of_row _ _ 1 _ _ _ j0
  have g6 := weight_none key hk w6
  have B6 := hide_it (B5.out.trans (hb6.mono B5.out.size))
  have R6 := hide_it (R5.out.below hb6)
  have N0 := hide_it j0
  clear g5 j0 hb6 M0 R5
  go_wp2_with fail
  clear d1
  refine Calls.mono g6 ?_
  rintro e w7 ⟨rfl, hb7⟩
  have g7 := bytes_nil none w7 (all_none w7)
  clear g6
  go_wp2_with fail
  refine Calls.mono g7 ?_
  rintro e w8 ⟨rfl, hb8⟩
  have g8 := len_none w8
  clear g7
  go_wp2_with fail
  refine Calls.mono g8 ?_
  rintro e w9 ⟨rfl, hw9⟩
  obtain rfl := hw9.symm
  have g9 := writes_nil none w8 (all_none w8)
  clear g8 hw9
  go_wp2_with fail
  refine Calls.mono g9 ?_
  rintro e wa ⟨rfl, hba⟩
  have hb6a : Below w6.heap.size w6 wa := hb7.trans ((hb8.trans (hba.mono hb8.size)).mono hb7.size)
  have j0 := (hb6a.block _ (Array.getElem?_eq_some_iff.1 N0.out).1).trans N0.out
  have d4 := cell_of_row _ _ 4 _ _ _ j0
  have Ba := hide_it (B6.out.trans (hb6a.mono B6.out.size))
  have Ra := hide_it (R6.out.below hb6a)
  have ga := rises_any uc (HROW.out.below Ba.out) (by have := HUL.out; omega)
  have P0 := hide_it j0
  clear g9 j0 N0 R6 hb6a hb7 hb8 hba
  go_wp2_with fail
  clear d4
  refine Calls.mono ga ?_
  rintro e wb ⟨⟨b, rfl⟩, hbb⟩
  have j0 := (hbb.block _ (Array.getElem?_eq_some_iff.1 P0.out).1).trans P0.out
  have d4 := cell_of_row _ _ 4 _ _ _ j0
  have Bb := hide_it (Ba.out.trans (hbb.mono Ba.out.size))
  have Rb := hide_it (Ra.out.below hbb)
  clear ga j0 P0 Ra hbb
  cases b with
  | false =>
    have gc := awake_any wb
    go_wp2_with fail
    refine Calls.mono gc ?_
    rintro e wd ⟨rfl, hbd⟩
    clear gc
    have Bd := hide_it (Bb.out.trans (hbd.mono Bb.out.size))
    clear hbd
    go_wp2_with fail
    go_ret
    exact ⟨rfl, Bd.out⟩
  | true =>
    have hru : RdP wb (.slice ua us.length uc) us := ⟨⟨ua, uc, rfl, HROW.out.below Bb.out⟩, fun x hx => ⟨(HVAL.out x hx).1.below Bb.out, (HVAL.out x hx).2⟩⟩
    have gb := samePairs_same Rb.out hru HSAY.out (by
      have h5 := (saysP_at HSAY.out).1
      have := HUL.out
      omega)
    clear hru
    go_wp2_with fail
    refine Calls.mono gb ?_
    rintro e wc ⟨rfl, hbc⟩
    have gc := awake_any wc
    have Bc := hide_it (Bb.out.trans (hbc.mono Bb.out.size))
    clear gb hbc
    go_wp2_with fail
    refine Calls.mono gc ?_
    rintro e wd ⟨rfl, hbd⟩
    clear gc
    have Bd := hide_it (Bc.out.trans (hbd.mono Bc.out.size))
    clear hbd
    go_wp2_with fail
    go_ret
    exact ⟨rfl, Bd.out⟩
end Go.Proofs.Ytbafjkanbbcbgaa.wsetNone
