/- The law on the entries' memory, walked. -/
import Derived.Test.YtlhlpofmeeiffabEk
import Derived.Test.YtlhlpofmeeiffabReg3
import Derived.Deep.CutRange
import Derived.Test.YtlhlpofmeeiffabEi5
import Derived.Test.YtlhlpofmeeiffabEh4
import Derived.Test.YtlhlpofmeeiffabEg4
import Derived.Test.YtlhlpofmeeiffabOpenE10
namespace Go.Proofs.Ytlhlpofmeeiffab.entryKeeps
open Go.RowKit

theorem rowB_front {w : World} {a : Option Addr} {zs ms : List Nat} (h : RowB w a (zs ++ ms)) : RowB w a zs := by
  rcases h with h | ⟨b, o, e, h1, h2⟩
  · exact .inl (by rw [List.length_append] at h; omega)
  · refine .inr ⟨b, o, e, h1, fun i hi => ?_⟩
    have := h2 i (by rw [List.length_append]; omega)
    have e2 : at0 (zs ++ ms) i = at0 zs i := by
      unfold at0
      rw [List.getD_eq_getElem?_getD, List.getD_eq_getElem?_getD, List.getElem?_append_left hi]
    rw [e2] at this
    exact this

theorem own_front {w : World} {B n cf : Nat} {ad : Addr} {zs ms : List Nat} (h : OwnB w B (.slice (some ad) n cf) (zs ++ ms)) : RowB w (some ad) zs := by
  obtain ⟨a, cap, hv, hr, _⟩ := h.row
  injection hv with h1 h2 h3
  rw [h1]
  exact rowB_front hr
theorem own_row {w : World} {B n cf : Nat} {a : Option Addr} {zs : List Nat} (h : OwnB w B (.slice a n cf) zs) : RowB w a zs ∧ (a = none → zs.length = 0 ∧ cf = 0) := by
  obtain ⟨a', cap, hv, hr, _, _, hn⟩ := h.row
  injection hv with h1 h2 h3
  rw [h1, h3]
  exact ⟨hr, hn⟩

theorem encE_len {x : En} (h : mayE x = true) : (encE x).length ≤ 4393 := by
  have m := may_parts h
  have hsh : ∀ {f : Nat}, W64 f → (shortL f).length ≤ 10 := fun h => shortL_ten h
  have h1 : (eK x.kind x.key).length ≤ 265 := by
    unfold eK
    cases e : hk x.kind
    · simp
    · have := (m.key1 e).2
      have h10 : (shortL (2 * x.key.size)).length ≤ 10 := hsh (by unfold W64; omega)
      simp only [if_true, List.length_append, strNat_len]; omega
  have h2 : (eS x.kind x.stamp).length ≤ 10 := by
    unfold eS
    cases e : hs x.kind
    · simp
    · have := m.st1 e
      exact hsh (foldI_64 (by omega) (by omega))
  have h3 : (eC x.kind x.count).length ≤ 10 := by
    unfold eC
    cases e : hc x.kind
    · simp
    · have := m.ct1 e
      exact hsh (foldI_64 (by omega) (by omega))
  have h4 : (eD x.kind x.dead).length ≤ 1 := by unfold eD; split <;> simp
  have h5 : (eV x.kind x.val).length ≤ 4106 := by
    unfold eV
    have := m.val
    cases e : hv x.kind
    · simp
    · have h10 : (shortL (2 * x.val.length)).length ≤ 10 := hsh (by unfold W64; omega)
      simp only [if_true, List.length_append]; omega
  unfold encE
  simp only [List.length_cons, List.length_append]
  omega

set_option maxRecDepth 100000 in
set_option maxHeartbeats 16000000 in
theorem walk (t : Ent) (y : Nat) (w : World) (ht : EntOk w t) (_hy : y < 256) :
    Calls Try.prog 3 #[.agg #[.int .i64 t.kind, .int .i64 t.stamp, .int .i64 t.count, .string t.key, .slice t.val.a t.val.p.length t.val.c, .bool t.dead], .int .u8 (y : Int)] w fun e w' => e = .returned (.bool true) ∧ Below w.heap.size w w' := by
  obtain ⟨kind, stamp, count, key, ⟨a, c, val⟩, dead⟩ := t
  have hrow := ht.val.row
  have hsz : val.length ≤ 140737488351232 := by have := ht.val.size; simp only at this; omega
  have hnil := ht.val.none
  have hv8 := ht.val.all
  simp only at hrow hnil hv8
  clear ht
  obtain ⟨W1, hW1⟩ : ∃ W, W = boxE w ⟨kind, stamp, count, key, val, dead⟩ a c := ⟨_, rfl⟩
  have K1 : Ks w W1 [] [(w.heap.size, ⟨kind, stamp, count, key, val, dead⟩, a, c)] [] := by
    have h0 : Ks w w [] [] [] := ⟨Apt.nil _ _, (fun i p e => by simp at e), (fun i p e => by simp at e), (fun i j p q e => by simp at e), Below.refl _ _⟩
    rw [hW1]
    exact h0.newE ⟨kind, stamp, count, key, val, dead⟩ a c
  have hwb : W1 = w.alloc (.cells #[.int .i64 kind, .int .i64 stamp, .int .i64 count, .string key, .slice a val.length c, .bool dead] 24) := by rw [hW1]
  clear hW1
  go_enter Try.func3, Try.ntmps3
  go_wp2_with fail
  rw [← hwb]
  clear hwb
  refine (awake_any W1).mono ?_
  rintro e W2 ⟨rfl, hb⟩
  have K2 := K1.below hb
  clear hb K1
  obtain ⟨c0, c1, c2, c3, c4, c5⟩ := (K2.ens 0 _ rfl).1.inE
  simp only at c0 c1 c2 c3 c4 c5
  have hx := rencode_any ⟨kind, stamp, count, key, val, dead⟩ a c W2 (hrow.below K2.bel) hnil
  obtain ⟨F, hF⟩ : ∃ F, F = if mayE ⟨kind, stamp, count, key, val, dead⟩ then encE ⟨kind, stamp, count, key, val, dead⟩ else [] := ⟨_, rfl⟩
  obtain ⟨ch, hch⟩ : ∃ n, n = chkE ⟨kind, stamp, count, key, val, dead⟩ := ⟨_, rfl⟩
  unfold EncTo at hx
  rw [← hF, ← hch] at hx
  replace hF := hide_it hF
  replace hch := hide_it hch
  go_wp2_with fail
  refine hx.mono ?_
  rintro e W3 ⟨⟨v5, rfl, ho⟩, hb⟩
  have K3 := K2.push hb ho
  obtain ⟨aw, cw, hvw, _, hFc, hcm, hnw⟩ := ho.row
  subst hvw
  clear hb ho K2 hx c0 c1 c2 c3 c4 c5
  obtain ⟨c0, c1, c2, c3, c4, c5⟩ := (K3.ens 0 _ rfl).1.inE
  simp only at c0 c1 c2 c3 c4 c5
  have hx := withRoom10_any a c val W3 (hrow.below K3.bel) (by omega) hnil
  go_wp2_with fail
  refine hx.mono ?_
  rintro e W4 ⟨⟨v7, rfl, ho⟩, hb⟩
  have K4 := K3.push hb ho
  obtain ⟨af, cf, hvf, _, hfc, hfm, hnf⟩ := ho.row
  subst hvf
  have hfl : (val ++ marks 70).length = val.length + 70 := by rw [List.length_append, marks_len]
  rw [hfl] at hfc
  obtain ⟨ad, rfl⟩ : ∃ ad, af = some ad := by
    cases af with
    | none => have := (hnf rfl).1; rw [hfl] at this; omega
    | some ad => exact ⟨ad, rfl⟩
  clear hb ho K3 hx c0 c1 c2 c3 c4 c5 hnf
  obtain ⟨c0, c1, c2, c3, c4, c5⟩ := (K4.ens 0 _ rfl).1.inE
  simp only at c0 c1 c2 c3 c4 c5
  rw [hfl] at K4 ⊢
  clear hfl
  have hlt4 := (K4.ens 0 _ rfl).1.lt
  simp only at hlt4
  replace K4 := hide_it K4
  go_wp2_with fail
  obtain ⟨W5, hW5⟩ : ∃ W, W = boxV (boxE W4 ⟨kind, stamp, count, key, val, dead⟩ (some ad) cf) ⟨key, stamp, val, dead⟩ (some ad) cf := ⟨_, rfl⟩
  have K5 : Ks w W5 [(.slice aw F.length cw, F), (.slice (some ad) (val.length + 70) cf, val ++ marks 70)] [(w.heap.size, ⟨kind, stamp, count, key, val, dead⟩, a, c), (W4.heap.size, ⟨kind, stamp, count, key, val, dead⟩, some ad, cf)] [(W4.heap.size + 1, ⟨key, stamp, val, dead⟩, some ad, cf)] := by
    have h := (K4.out.newE ⟨kind, stamp, count, key, val, dead⟩ (some ad) cf).newV ⟨key, stamp, val, dead⟩ (some ad) cf
    rw [World.size_alloc] at h
    rw [hW5]
    exact h
  have hx := encode_any ⟨kind, stamp, count, key, val, dead⟩ (some ad) cf W5 (own_front (K5.apt.own 1 _ rfl)) (fun e => by cases e)
  unfold EncTo at hx
  rw [← hF.out, ← hch.out] at hx
  change Calls _ _ _ (boxV (boxE W4 ⟨kind, stamp, count, key, val, dead⟩ (some ad) cf) ⟨key, stamp, val, dead⟩ (some ad) cf) _
  rw [← hW5]
  clear hW5 K4 c0 c1 c2 c3 c4 c5 hlt4
  obtain ⟨E8, hE8⟩ : ∃ E, E = W4.heap.size := ⟨_, rfl⟩
  rw [← hE8] at K5 ⊢
  clear hE8
  obtain ⟨E9, hE9⟩ : ∃ E, E = E8 + 1 := ⟨_, rfl⟩
  rw [← hE9] at K5 ⊢
  clear hE9
  refine hx.mono ?_
  rintro e W6 ⟨⟨v10, rfl, ho⟩, hb⟩
  have K6 := K5.push hb ho
  obtain ⟨a10, c10, hv10, _⟩ := ho.row
  subst hv10
  clear hb ho K5 hx
  obtain ⟨c0, c1, c2, c3, c4, c5⟩ := (K6.ens 1 _ rfl).1.inE
  simp only at c0 c1 c2 c3 c4 c5
  have hx := encode_any ⟨kind, stamp, count, key, val, dead⟩ (some ad) cf W6 (own_front (K6.apt.own 1 _ rfl)) (fun e => by cases e)
  unfold EncTo at hx
  rw [← hF.out, ← hch.out] at hx
  replace K6 := hide_it K6
  go_wp2_with fail
  refine hx.mono ?_
  rintro e W7 ⟨⟨v12, rfl, ho⟩, hb⟩
  have K7 := K6.out.push hb ho
  obtain ⟨a12, c12, hv12, _⟩ := ho.row
  subst hv12
  clear hb ho K6 hx c0 c1 c2 c3 c4 c5
  have K7' : Ks w W7 [(.slice aw F.length cw, F), (.slice (some ad) (val.length + 70) cf, val ++ marks 70), (.slice a10 F.length c10, F), (.slice a12 F.length c12, F)] [(w.heap.size, ⟨kind, stamp, count, key, val, dead⟩, a, c), (E8, ⟨kind, stamp, count, key, val, dead⟩, some ad, cf)] [(E9, ⟨key, stamp, val, dead⟩, some ad, cf)] := K7
  clear K7
  obtain ⟨g0, g1, g2, g3⟩ := (K7'.vns 0 _ rfl).cells
  simp only at g0 g1 g2 g3
  have hlt9 := (K7'.vns 0 _ rfl).lt
  simp only at hlt9
  replace K7' := hide_it K7'
  go_wp2_with fail
  have hM := Mk.start K7'.out
  have hro := hide_it (own_front (K7'.out.apt.own 1 _ rfl))
  have hcall1 : Hid (∀ W, Below W7.heap.size W7 W → Calls Try.prog 8 #[valV ⟨key, stamp, val, dead⟩ (some ad) cf] W fun e w' => EnTo W (ofWriteE ⟨key, stamp, val, dead⟩) e w') := fun W h => ofWrite_any ⟨key, stamp, val, dead⟩ (some ad) cf W (hro.out.below h) (by simp only; omega) (fun e => by cases e)
  have hcall2 : Hid (∀ W, Below W7.heap.size W7 W → Calls Try.prog 9 #[valV ⟨key, stamp, val, dead⟩ (some ad) cf] W fun e w' => EnTo W (ofVersionE ⟨key, stamp, val, dead⟩) e w') := fun W h => ofVersion_any ⟨key, stamp, val, dead⟩ (some ad) cf W (hro.out.below h) (by simp only; omega) (fun e => by cases e)
  obtain ⟨OW, hOW⟩ : ∃ x, x = ofWriteE ⟨key, stamp, val, dead⟩ := ⟨_, rfl⟩
  obtain ⟨OV, hOV⟩ : ∃ x, x = ofVersionE ⟨key, stamp, val, dead⟩ := ⟨_, rfl⟩
  rw [← hOW] at hcall1
  rw [← hOV] at hcall2
  replace hOW := hide_it hOW
  replace hOV := hide_it hOV
  go_cut [14, 15] from 67 to 70 (fun x e wc => ∃ X Y ax cx ay cy, x = .pointer (some ⟨X, 0, none⟩) ∧ e = .pointer (some ⟨Y, 0, none⟩) ∧ Hid (Ks w wc [(.slice aw F.length cw, F), (.slice (some ad) (val.length + 70) cf, val ++ marks 70), (.slice a10 F.length c10, F), (.slice a12 F.length c12, F), (.slice ax OW.val.length cx, OW.val), (.slice ay OV.val.length cy, OV.val)] [(w.heap.size, ⟨kind, stamp, count, key, val, dead⟩, a, c), (E8, ⟨kind, stamp, count, key, val, dead⟩, some ad, cf), (X, OW, ax, cx), (Y, OV, ay, cy)] [(E9, ⟨key, stamp, val, dead⟩, some ad, cf)]))
  case first =>
    refine wp_region_held_drew (S := (fun w' => Below W7.heap.size W7 w')) (by kernel_rfl) ?_ (fun hHeld => ?_)
    · exact (Below.refl _ _).drew
    refine take_on (i := 0) (v := ?_) rfl rfl (by kernel_rfl) (by kernel_rfl) (by kernel_rfl) (fun _ _ _ h => h) rfl ?_ hHeld ?_
    rotate_left
    · (intro wq hSq; have q0 := (hSq.cell (p := ⟨E9, 0, none⟩) hlt9).trans g0; have q1 := (hSq.cell (p := ⟨E9, 1, none⟩) hlt9).trans g1; have q2 := (hSq.cell (p := ⟨E9, 2, none⟩) hlt9).trans g2; have q3 := (hSq.cell (p := ⟨E9, 3, none⟩) hlt9).trans g3; go_simp <;> first | with_reducible rfl | rfl)
    simp only [Act.put, List.setIfInBounds_toArray, List.set_cons_zero, List.set_cons_succ]
    refine take_on (i := 2) (v := ?_) rfl rfl (by kernel_rfl) (by kernel_rfl) (by kernel_rfl) (fun _ _ _ h => h) rfl ?_ hHeld ?_
    rotate_left
    · (intro wq hSq; have q0 := (hSq.cell (p := ⟨E9, 0, none⟩) hlt9).trans g0; have q1 := (hSq.cell (p := ⟨E9, 1, none⟩) hlt9).trans g1; have q2 := (hSq.cell (p := ⟨E9, 2, none⟩) hlt9).trans g2; have q3 := (hSq.cell (p := ⟨E9, 3, none⟩) hlt9).trans g3; go_simp <;> first | with_reducible rfl | rfl)
    simp only [Act.put, List.setIfInBounds_toArray, List.set_cons_zero, List.set_cons_succ]
    refine take_three (i := 1) (j := 4) (l := 5) rfl rfl rfl (by kernel_rfl) (fun K hK => ?_) (fun K hK => ?_) (fun K hK => ?_)
    · go_simp
      refine (hcall1.out _ hHeld).mono ?_
      rintro e z3 ⟨⟨ax, cx, rfl, ho⟩, hb⟩
      replace hM := hM.call1 hb ho
      clear hb ho
      go_wp2_with fail
      refine hK.out _ _ ?_ (fun hHeld => ?_)
      · exact hM.bel
      clear hK K
      try simp only [Act.put, List.setIfInBounds_toArray, List.set_cons_zero, List.set_cons_succ]
      refine take_three (i := 3) (j := 4) (l := 5) rfl rfl rfl (by kernel_rfl) (fun K hK => ?_) (fun K hK => ?_) (fun K hK => ?_)
      · go_simp
        refine (hcall2.out _ hHeld).mono ?_
        rintro e z4 ⟨⟨ay, cy, rfl, ho⟩, hb⟩
        replace hM := hM.call2 hb ho
        clear hb ho
        go_wp2_with fail
        refine hK.out _ _ ?_ (fun hHeld => ?_)
        · exact hM.bel
        clear hK K
        try simp only [Act.put, List.setIfInBounds_toArray, List.set_cons_zero, List.set_cons_succ]
        refine take_two (i := 4) (j := 5) rfl rfl (by kernel_rfl) (fun K hK => ?_) (fun K hK => ?_)
        · obtain ⟨zA, eA, hM⟩ := hM.box1
          go_simp
          first | rw [← eA] | rw [show (W7.alloc (.cells #[.int .i64 0, .int .i64 0, .int .i64 0, .string ⟨#[]⟩, .slice none 0 0, .bool false] 24)).drew = zA from eA.symm]
          clear eA
          try change Mk _ _ _ _ _ _ none none (some W7.heap.size) none at hM
          refine hK.out _ _ ?_ (fun hHeld => ?_)
          · exact hM.bel
          clear hK K
          try simp only [Act.put, List.setIfInBounds_toArray, List.set_cons_zero, List.set_cons_succ]
          refine take_one (i := 5) rfl (by kernel_rfl) (fun K hK => ?_)
          · obtain ⟨zB, eB, hM⟩ := hM.box2
            go_simp
            first | rw [← eB] | rw [show (W7.alloc (.cells #[.int .i64 0, .int .i64 0, .int .i64 0, .string ⟨#[]⟩, .slice none 0 0, .bool false] 24)).drew = zB from eB.symm]
            clear eB
            try change Mk _ _ _ _ _ _ none none none (some W7.heap.size) at hM
            refine hK.out _ _ ?_ (fun hHeld => ?_)
            · exact hM.bel
            clear hK K
            try simp only [Act.put, List.setIfInBounds_toArray, List.set_cons_zero, List.set_cons_succ]
            refine take_one (i := 6) rfl (by kernel_rfl) (fun K hK => ?_)
            have hB1 := (hM.b1 _ rfl).1
            obtain ⟨d0, d1, d2, d3, d4, d5⟩ := hB1.inE
            have hy1 := hB1.soft
            obtain ⟨zC, eC, hB2, hl1, hP⟩ := hM.put OW ax cx
            replace hP := hide_it hP
            replace eC := hide_it eC
            clear hB1
            go_simp
            rw [← eC.out]
            clear eC hM d0 d1 d2 d3 d4 d5 hy1
            refine hK.out _ _ ?_ (fun hHeld => ?_)
            · exact hl1
            clear hK K
            try simp only [Act.put, List.setIfInBounds_toArray, List.set_cons_zero, List.set_cons_succ]
            refine take_one (i := 7) rfl (by kernel_rfl) (fun K hK => ?_)
            obtain ⟨d0, d1, d2, d3, d4, d5⟩ := hB2.inE
            have hy2 := hB2.soft
            obtain ⟨zD, eD, hl2, hfi⟩ := hP.out OV ay cy
            replace hfi := hide_it hfi
            replace eD := hide_it eD
            clear hP hB2
            go_simp
            rw [← eD.out]
            clear eD d0 d1 d2 d3 d4 d5 hy2
            refine hK.out _ _ ?_ (fun hHeld => ?_)
            · exact hl2
            clear hK K
            try simp only [Act.put, List.setIfInBounds_toArray, List.set_cons_zero, List.set_cons_succ]
            refine wpAnyH_done (by kernel_rfl) ?_ _
            try go_wp2_with fail
            go_meet
            case rel => exact ⟨_, _, _, _, _, _, rfl, rfl, hfi⟩
        · obtain ⟨zB, eB, hM⟩ := hM.box2
          go_simp
          first | rw [← eB] | rw [show (W7.alloc (.cells #[.int .i64 0, .int .i64 0, .int .i64 0, .string ⟨#[]⟩, .slice none 0 0, .bool false] 24)).drew = zB from eB.symm]
          clear eB
          try change Mk _ _ _ _ _ _ none none none (some W7.heap.size) at hM
          refine hK.out _ _ ?_ (fun hHeld => ?_)
          · exact hM.bel
          clear hK K
          try simp only [Act.put, List.setIfInBounds_toArray, List.set_cons_zero, List.set_cons_succ]
          refine take_one (i := 4) rfl (by kernel_rfl) (fun K hK => ?_)
          · obtain ⟨zA, eA, hM⟩ := hM.box1
            go_simp
            first | rw [← eA] | rw [show (W7.alloc (.cells #[.int .i64 0, .int .i64 0, .int .i64 0, .string ⟨#[]⟩, .slice none 0 0, .bool false] 24)).drew = zA from eA.symm]
            clear eA
            try change Mk _ _ _ _ _ _ none none (some W7.heap.size) none at hM
            refine hK.out _ _ ?_ (fun hHeld => ?_)
            · exact hM.bel
            clear hK K
            try simp only [Act.put, List.setIfInBounds_toArray, List.set_cons_zero, List.set_cons_succ]
            refine take_one (i := 6) rfl (by kernel_rfl) (fun K hK => ?_)
            have hB1 := (hM.b1 _ rfl).1
            obtain ⟨d0, d1, d2, d3, d4, d5⟩ := hB1.inE
            have hy1 := hB1.soft
            obtain ⟨zC, eC, hB2, hl1, hP⟩ := hM.put OW ax cx
            replace hP := hide_it hP
            replace eC := hide_it eC
            clear hB1
            go_simp
            rw [← eC.out]
            clear eC hM d0 d1 d2 d3 d4 d5 hy1
            refine hK.out _ _ ?_ (fun hHeld => ?_)
            · exact hl1
            clear hK K
            try simp only [Act.put, List.setIfInBounds_toArray, List.set_cons_zero, List.set_cons_succ]
            refine take_one (i := 7) rfl (by kernel_rfl) (fun K hK => ?_)
            obtain ⟨d0, d1, d2, d3, d4, d5⟩ := hB2.inE
            have hy2 := hB2.soft
            obtain ⟨zD, eD, hl2, hfi⟩ := hP.out OV ay cy
            replace hfi := hide_it hfi
            replace eD := hide_it eD
            clear hP hB2
            go_simp
            rw [← eD.out]
            clear eD d0 d1 d2 d3 d4 d5 hy2
            refine hK.out _ _ ?_ (fun hHeld => ?_)
            · exact hl2
            clear hK K
            try simp only [Act.put, List.setIfInBounds_toArray, List.set_cons_zero, List.set_cons_succ]
            refine wpAnyH_done (by kernel_rfl) ?_ _
            try go_wp2_with fail
            go_meet
            case rel => exact ⟨_, _, _, _, _, _, rfl, rfl, hfi⟩
      · obtain ⟨zA, eA, hM⟩ := hM.box1
        go_simp
        first | rw [← eA] | rw [show (W7.alloc (.cells #[.int .i64 0, .int .i64 0, .int .i64 0, .string ⟨#[]⟩, .slice none 0 0, .bool false] 24)).drew = zA from eA.symm]
        clear eA
        try change Mk _ _ _ _ _ _ none none (some W7.heap.size) none at hM
        refine hK.out _ _ ?_ (fun hHeld => ?_)
        · exact hM.bel
        clear hK K
        try simp only [Act.put, List.setIfInBounds_toArray, List.set_cons_zero, List.set_cons_succ]
        refine take_two (i := 3) (j := 5) rfl rfl (by kernel_rfl) (fun K hK => ?_) (fun K hK => ?_)
        · go_simp
          refine (hcall2.out _ hHeld).mono ?_
          rintro e z4 ⟨⟨ay, cy, rfl, ho⟩, hb⟩
          replace hM := hM.call2 hb ho
          clear hb ho
          go_wp2_with fail
          refine hK.out _ _ ?_ (fun hHeld => ?_)
          · exact hM.bel
          clear hK K
          try simp only [Act.put, List.setIfInBounds_toArray, List.set_cons_zero, List.set_cons_succ]
          refine take_one (i := 5) rfl (by kernel_rfl) (fun K hK => ?_)
          · obtain ⟨zB, eB, hM⟩ := hM.box2
            go_simp
            first | rw [← eB] | rw [show (W7.alloc (.cells #[.int .i64 0, .int .i64 0, .int .i64 0, .string ⟨#[]⟩, .slice none 0 0, .bool false] 24)).drew = zB from eB.symm]
            clear eB
            try change Mk _ _ _ _ _ _ none none none (some W7.heap.size) at hM
            refine hK.out _ _ ?_ (fun hHeld => ?_)
            · exact hM.bel
            clear hK K
            try simp only [Act.put, List.setIfInBounds_toArray, List.set_cons_zero, List.set_cons_succ]
            refine take_one (i := 6) rfl (by kernel_rfl) (fun K hK => ?_)
            have hB1 := (hM.b1 _ rfl).1
            obtain ⟨d0, d1, d2, d3, d4, d5⟩ := hB1.inE
            have hy1 := hB1.soft
            obtain ⟨zC, eC, hB2, hl1, hP⟩ := hM.put OW ax cx
            replace hP := hide_it hP
            replace eC := hide_it eC
            clear hB1
            go_simp
            rw [← eC.out]
            clear eC hM d0 d1 d2 d3 d4 d5 hy1
            refine hK.out _ _ ?_ (fun hHeld => ?_)
            · exact hl1
            clear hK K
            try simp only [Act.put, List.setIfInBounds_toArray, List.set_cons_zero, List.set_cons_succ]
            refine take_one (i := 7) rfl (by kernel_rfl) (fun K hK => ?_)
            obtain ⟨d0, d1, d2, d3, d4, d5⟩ := hB2.inE
            have hy2 := hB2.soft
            obtain ⟨zD, eD, hl2, hfi⟩ := hP.out OV ay cy
            replace hfi := hide_it hfi
            replace eD := hide_it eD
            clear hP hB2
            go_simp
            rw [← eD.out]
            clear eD d0 d1 d2 d3 d4 d5 hy2
            refine hK.out _ _ ?_ (fun hHeld => ?_)
            · exact hl2
            clear hK K
            try simp only [Act.put, List.setIfInBounds_toArray, List.set_cons_zero, List.set_cons_succ]
            refine wpAnyH_done (by kernel_rfl) ?_ _
            try go_wp2_with fail
            go_meet
            case rel => exact ⟨_, _, _, _, _, _, rfl, rfl, hfi⟩
        · obtain ⟨zB, eB, hM⟩ := hM.box2
          go_simp
          first | rw [← eB] | rw [show (W7.alloc (.cells #[.int .i64 0, .int .i64 0, .int .i64 0, .string ⟨#[]⟩, .slice none 0 0, .bool false] 24)).drew = zB from eB.symm]
          clear eB
          try change Mk _ _ _ _ _ _ none none none (some W7.heap.size) at hM
          refine hK.out _ _ ?_ (fun hHeld => ?_)
          · exact hM.bel
          clear hK K
          try simp only [Act.put, List.setIfInBounds_toArray, List.set_cons_zero, List.set_cons_succ]
          refine take_one (i := 3) rfl (by kernel_rfl) (fun K hK => ?_)
          · go_simp
            refine (hcall2.out _ hHeld).mono ?_
            rintro e z4 ⟨⟨ay, cy, rfl, ho⟩, hb⟩
            replace hM := hM.call2 hb ho
            clear hb ho
            go_wp2_with fail
            refine hK.out _ _ ?_ (fun hHeld => ?_)
            · exact hM.bel
            clear hK K
            try simp only [Act.put, List.setIfInBounds_toArray, List.set_cons_zero, List.set_cons_succ]
            refine take_one (i := 6) rfl (by kernel_rfl) (fun K hK => ?_)
            have hB1 := (hM.b1 _ rfl).1
            obtain ⟨d0, d1, d2, d3, d4, d5⟩ := hB1.inE
            have hy1 := hB1.soft
            obtain ⟨zC, eC, hB2, hl1, hP⟩ := hM.put OW ax cx
            replace hP := hide_it hP
            replace eC := hide_it eC
            clear hB1
            go_simp
            rw [← eC.out]
            clear eC hM d0 d1 d2 d3 d4 d5 hy1
            refine hK.out _ _ ?_ (fun hHeld => ?_)
            · exact hl1
            clear hK K
            try simp only [Act.put, List.setIfInBounds_toArray, List.set_cons_zero, List.set_cons_succ]
            refine take_one (i := 7) rfl (by kernel_rfl) (fun K hK => ?_)
            obtain ⟨d0, d1, d2, d3, d4, d5⟩ := hB2.inE
            have hy2 := hB2.soft
            obtain ⟨zD, eD, hl2, hfi⟩ := hP.out OV ay cy
            replace hfi := hide_it hfi
            replace eD := hide_it eD
            clear hP hB2
            go_simp
            rw [← eD.out]
            clear eD d0 d1 d2 d3 d4 d5 hy2
            refine hK.out _ _ ?_ (fun hHeld => ?_)
            · exact hl2
            clear hK K
            try simp only [Act.put, List.setIfInBounds_toArray, List.set_cons_zero, List.set_cons_succ]
            refine wpAnyH_done (by kernel_rfl) ?_ _
            try go_wp2_with fail
            go_meet
            case rel => exact ⟨_, _, _, _, _, _, rfl, rfl, hfi⟩
      · obtain ⟨zB, eB, hM⟩ := hM.box2
        go_simp
        first | rw [← eB] | rw [show (W7.alloc (.cells #[.int .i64 0, .int .i64 0, .int .i64 0, .string ⟨#[]⟩, .slice none 0 0, .bool false] 24)).drew = zB from eB.symm]
        clear eB
        try change Mk _ _ _ _ _ _ none none none (some W7.heap.size) at hM
        refine hK.out _ _ ?_ (fun hHeld => ?_)
        · exact hM.bel
        clear hK K
        try simp only [Act.put, List.setIfInBounds_toArray, List.set_cons_zero, List.set_cons_succ]
        refine take_two (i := 3) (j := 4) rfl rfl (by kernel_rfl) (fun K hK => ?_) (fun K hK => ?_)
        · go_simp
          refine (hcall2.out _ hHeld).mono ?_
          rintro e z4 ⟨⟨ay, cy, rfl, ho⟩, hb⟩
          replace hM := hM.call2 hb ho
          clear hb ho
          go_wp2_with fail
          refine hK.out _ _ ?_ (fun hHeld => ?_)
          · exact hM.bel
          clear hK K
          try simp only [Act.put, List.setIfInBounds_toArray, List.set_cons_zero, List.set_cons_succ]
          refine take_one (i := 4) rfl (by kernel_rfl) (fun K hK => ?_)
          · obtain ⟨zA, eA, hM⟩ := hM.box1
            go_simp
            first | rw [← eA] | rw [show (W7.alloc (.cells #[.int .i64 0, .int .i64 0, .int .i64 0, .string ⟨#[]⟩, .slice none 0 0, .bool false] 24)).drew = zA from eA.symm]
            clear eA
            try change Mk _ _ _ _ _ _ none none (some W7.heap.size) none at hM
            refine hK.out _ _ ?_ (fun hHeld => ?_)
            · exact hM.bel
            clear hK K
            try simp only [Act.put, List.setIfInBounds_toArray, List.set_cons_zero, List.set_cons_succ]
            refine take_one (i := 6) rfl (by kernel_rfl) (fun K hK => ?_)
            have hB1 := (hM.b1 _ rfl).1
            obtain ⟨d0, d1, d2, d3, d4, d5⟩ := hB1.inE
            have hy1 := hB1.soft
            obtain ⟨zC, eC, hB2, hl1, hP⟩ := hM.put OW ax cx
            replace hP := hide_it hP
            replace eC := hide_it eC
            clear hB1
            go_simp
            rw [← eC.out]
            clear eC hM d0 d1 d2 d3 d4 d5 hy1
            refine hK.out _ _ ?_ (fun hHeld => ?_)
            · exact hl1
            clear hK K
            try simp only [Act.put, List.setIfInBounds_toArray, List.set_cons_zero, List.set_cons_succ]
            refine take_one (i := 7) rfl (by kernel_rfl) (fun K hK => ?_)
            obtain ⟨d0, d1, d2, d3, d4, d5⟩ := hB2.inE
            have hy2 := hB2.soft
            obtain ⟨zD, eD, hl2, hfi⟩ := hP.out OV ay cy
            replace hfi := hide_it hfi
            replace eD := hide_it eD
            clear hP hB2
            go_simp
            rw [← eD.out]
            clear eD d0 d1 d2 d3 d4 d5 hy2
            refine hK.out _ _ ?_ (fun hHeld => ?_)
            · exact hl2
            clear hK K
            try simp only [Act.put, List.setIfInBounds_toArray, List.set_cons_zero, List.set_cons_succ]
            refine wpAnyH_done (by kernel_rfl) ?_ _
            try go_wp2_with fail
            go_meet
            case rel => exact ⟨_, _, _, _, _, _, rfl, rfl, hfi⟩
        · obtain ⟨zA, eA, hM⟩ := hM.box1
          go_simp
          first | rw [← eA] | rw [show (W7.alloc (.cells #[.int .i64 0, .int .i64 0, .int .i64 0, .string ⟨#[]⟩, .slice none 0 0, .bool false] 24)).drew = zA from eA.symm]
          clear eA
          try change Mk _ _ _ _ _ _ none none (some W7.heap.size) none at hM
          refine hK.out _ _ ?_ (fun hHeld => ?_)
          · exact hM.bel
          clear hK K
          try simp only [Act.put, List.setIfInBounds_toArray, List.set_cons_zero, List.set_cons_succ]
          refine take_one (i := 3) rfl (by kernel_rfl) (fun K hK => ?_)
          · go_simp
            refine (hcall2.out _ hHeld).mono ?_
            rintro e z4 ⟨⟨ay, cy, rfl, ho⟩, hb⟩
            replace hM := hM.call2 hb ho
            clear hb ho
            go_wp2_with fail
            refine hK.out _ _ ?_ (fun hHeld => ?_)
            · exact hM.bel
            clear hK K
            try simp only [Act.put, List.setIfInBounds_toArray, List.set_cons_zero, List.set_cons_succ]
            refine take_one (i := 6) rfl (by kernel_rfl) (fun K hK => ?_)
            have hB1 := (hM.b1 _ rfl).1
            obtain ⟨d0, d1, d2, d3, d4, d5⟩ := hB1.inE
            have hy1 := hB1.soft
            obtain ⟨zC, eC, hB2, hl1, hP⟩ := hM.put OW ax cx
            replace hP := hide_it hP
            replace eC := hide_it eC
            clear hB1
            go_simp
            rw [← eC.out]
            clear eC hM d0 d1 d2 d3 d4 d5 hy1
            refine hK.out _ _ ?_ (fun hHeld => ?_)
            · exact hl1
            clear hK K
            try simp only [Act.put, List.setIfInBounds_toArray, List.set_cons_zero, List.set_cons_succ]
            refine take_one (i := 7) rfl (by kernel_rfl) (fun K hK => ?_)
            obtain ⟨d0, d1, d2, d3, d4, d5⟩ := hB2.inE
            have hy2 := hB2.soft
            obtain ⟨zD, eD, hl2, hfi⟩ := hP.out OV ay cy
            replace hfi := hide_it hfi
            replace eD := hide_it eD
            clear hP hB2
            go_simp
            rw [← eD.out]
            clear eD d0 d1 d2 d3 d4 d5 hy2
            refine hK.out _ _ ?_ (fun hHeld => ?_)
            · exact hl2
            clear hK K
            try simp only [Act.put, List.setIfInBounds_toArray, List.set_cons_zero, List.set_cons_succ]
            refine wpAnyH_done (by kernel_rfl) ?_ _
            try go_wp2_with fail
            go_meet
            case rel => exact ⟨_, _, _, _, _, _, rfl, rfl, hfi⟩
    · obtain ⟨zA, eA, hM⟩ := hM.box1
      go_simp
      first | rw [← eA] | rw [show (W7.alloc (.cells #[.int .i64 0, .int .i64 0, .int .i64 0, .string ⟨#[]⟩, .slice none 0 0, .bool false] 24)).drew = zA from eA.symm]
      clear eA
      try change Mk _ _ _ _ _ _ none none (some W7.heap.size) none at hM
      refine hK.out _ _ ?_ (fun hHeld => ?_)
      · exact hM.bel
      clear hK K
      try simp only [Act.put, List.setIfInBounds_toArray, List.set_cons_zero, List.set_cons_succ]
      refine take_two (i := 1) (j := 5) rfl rfl (by kernel_rfl) (fun K hK => ?_) (fun K hK => ?_)
      · go_simp
        refine (hcall1.out _ hHeld).mono ?_
        rintro e z3 ⟨⟨ax, cx, rfl, ho⟩, hb⟩
        replace hM := hM.call1 hb ho
        clear hb ho
        go_wp2_with fail
        refine hK.out _ _ ?_ (fun hHeld => ?_)
        · exact hM.bel
        clear hK K
        try simp only [Act.put, List.setIfInBounds_toArray, List.set_cons_zero, List.set_cons_succ]
        refine take_two (i := 3) (j := 5) rfl rfl (by kernel_rfl) (fun K hK => ?_) (fun K hK => ?_)
        · go_simp
          refine (hcall2.out _ hHeld).mono ?_
          rintro e z4 ⟨⟨ay, cy, rfl, ho⟩, hb⟩
          replace hM := hM.call2 hb ho
          clear hb ho
          go_wp2_with fail
          refine hK.out _ _ ?_ (fun hHeld => ?_)
          · exact hM.bel
          clear hK K
          try simp only [Act.put, List.setIfInBounds_toArray, List.set_cons_zero, List.set_cons_succ]
          refine take_one (i := 5) rfl (by kernel_rfl) (fun K hK => ?_)
          · obtain ⟨zB, eB, hM⟩ := hM.box2
            go_simp
            first | rw [← eB] | rw [show (W7.alloc (.cells #[.int .i64 0, .int .i64 0, .int .i64 0, .string ⟨#[]⟩, .slice none 0 0, .bool false] 24)).drew = zB from eB.symm]
            clear eB
            try change Mk _ _ _ _ _ _ none none none (some W7.heap.size) at hM
            refine hK.out _ _ ?_ (fun hHeld => ?_)
            · exact hM.bel
            clear hK K
            try simp only [Act.put, List.setIfInBounds_toArray, List.set_cons_zero, List.set_cons_succ]
            refine take_one (i := 6) rfl (by kernel_rfl) (fun K hK => ?_)
            have hB1 := (hM.b1 _ rfl).1
            obtain ⟨d0, d1, d2, d3, d4, d5⟩ := hB1.inE
            have hy1 := hB1.soft
            obtain ⟨zC, eC, hB2, hl1, hP⟩ := hM.put OW ax cx
            replace hP := hide_it hP
            replace eC := hide_it eC
            clear hB1
            go_simp
            rw [← eC.out]
            clear eC hM d0 d1 d2 d3 d4 d5 hy1
            refine hK.out _ _ ?_ (fun hHeld => ?_)
            · exact hl1
            clear hK K
            try simp only [Act.put, List.setIfInBounds_toArray, List.set_cons_zero, List.set_cons_succ]
            refine take_one (i := 7) rfl (by kernel_rfl) (fun K hK => ?_)
            obtain ⟨d0, d1, d2, d3, d4, d5⟩ := hB2.inE
            have hy2 := hB2.soft
            obtain ⟨zD, eD, hl2, hfi⟩ := hP.out OV ay cy
            replace hfi := hide_it hfi
            replace eD := hide_it eD
            clear hP hB2
            go_simp
            rw [← eD.out]
            clear eD d0 d1 d2 d3 d4 d5 hy2
            refine hK.out _ _ ?_ (fun hHeld => ?_)
            · exact hl2
            clear hK K
            try simp only [Act.put, List.setIfInBounds_toArray, List.set_cons_zero, List.set_cons_succ]
            refine wpAnyH_done (by kernel_rfl) ?_ _
            try go_wp2_with fail
            go_meet
            case rel => exact ⟨_, _, _, _, _, _, rfl, rfl, hfi⟩
        · obtain ⟨zB, eB, hM⟩ := hM.box2
          go_simp
          first | rw [← eB] | rw [show (W7.alloc (.cells #[.int .i64 0, .int .i64 0, .int .i64 0, .string ⟨#[]⟩, .slice none 0 0, .bool false] 24)).drew = zB from eB.symm]
          clear eB
          try change Mk _ _ _ _ _ _ none none none (some W7.heap.size) at hM
          refine hK.out _ _ ?_ (fun hHeld => ?_)
          · exact hM.bel
          clear hK K
          try simp only [Act.put, List.setIfInBounds_toArray, List.set_cons_zero, List.set_cons_succ]
          refine take_one (i := 3) rfl (by kernel_rfl) (fun K hK => ?_)
          · go_simp
            refine (hcall2.out _ hHeld).mono ?_
            rintro e z4 ⟨⟨ay, cy, rfl, ho⟩, hb⟩
            replace hM := hM.call2 hb ho
            clear hb ho
            go_wp2_with fail
            refine hK.out _ _ ?_ (fun hHeld => ?_)
            · exact hM.bel
            clear hK K
            try simp only [Act.put, List.setIfInBounds_toArray, List.set_cons_zero, List.set_cons_succ]
            refine take_one (i := 6) rfl (by kernel_rfl) (fun K hK => ?_)
            have hB1 := (hM.b1 _ rfl).1
            obtain ⟨d0, d1, d2, d3, d4, d5⟩ := hB1.inE
            have hy1 := hB1.soft
            obtain ⟨zC, eC, hB2, hl1, hP⟩ := hM.put OW ax cx
            replace hP := hide_it hP
            replace eC := hide_it eC
            clear hB1
            go_simp
            rw [← eC.out]
            clear eC hM d0 d1 d2 d3 d4 d5 hy1
            refine hK.out _ _ ?_ (fun hHeld => ?_)
            · exact hl1
            clear hK K
            try simp only [Act.put, List.setIfInBounds_toArray, List.set_cons_zero, List.set_cons_succ]
            refine take_one (i := 7) rfl (by kernel_rfl) (fun K hK => ?_)
            obtain ⟨d0, d1, d2, d3, d4, d5⟩ := hB2.inE
            have hy2 := hB2.soft
            obtain ⟨zD, eD, hl2, hfi⟩ := hP.out OV ay cy
            replace hfi := hide_it hfi
            replace eD := hide_it eD
            clear hP hB2
            go_simp
            rw [← eD.out]
            clear eD d0 d1 d2 d3 d4 d5 hy2
            refine hK.out _ _ ?_ (fun hHeld => ?_)
            · exact hl2
            clear hK K
            try simp only [Act.put, List.setIfInBounds_toArray, List.set_cons_zero, List.set_cons_succ]
            refine wpAnyH_done (by kernel_rfl) ?_ _
            try go_wp2_with fail
            go_meet
            case rel => exact ⟨_, _, _, _, _, _, rfl, rfl, hfi⟩
      · obtain ⟨zB, eB, hM⟩ := hM.box2
        go_simp
        first | rw [← eB] | rw [show (W7.alloc (.cells #[.int .i64 0, .int .i64 0, .int .i64 0, .string ⟨#[]⟩, .slice none 0 0, .bool false] 24)).drew = zB from eB.symm]
        clear eB
        try change Mk _ _ _ _ _ _ none none none (some W7.heap.size) at hM
        refine hK.out _ _ ?_ (fun hHeld => ?_)
        · exact hM.bel
        clear hK K
        try simp only [Act.put, List.setIfInBounds_toArray, List.set_cons_zero, List.set_cons_succ]
        refine take_one (i := 1) rfl (by kernel_rfl) (fun K hK => ?_)
        · go_simp
          refine (hcall1.out _ hHeld).mono ?_
          rintro e z3 ⟨⟨ax, cx, rfl, ho⟩, hb⟩
          replace hM := hM.call1 hb ho
          clear hb ho
          go_wp2_with fail
          refine hK.out _ _ ?_ (fun hHeld => ?_)
          · exact hM.bel
          clear hK K
          try simp only [Act.put, List.setIfInBounds_toArray, List.set_cons_zero, List.set_cons_succ]
          refine take_one (i := 3) rfl (by kernel_rfl) (fun K hK => ?_)
          · go_simp
            refine (hcall2.out _ hHeld).mono ?_
            rintro e z4 ⟨⟨ay, cy, rfl, ho⟩, hb⟩
            replace hM := hM.call2 hb ho
            clear hb ho
            go_wp2_with fail
            refine hK.out _ _ ?_ (fun hHeld => ?_)
            · exact hM.bel
            clear hK K
            try simp only [Act.put, List.setIfInBounds_toArray, List.set_cons_zero, List.set_cons_succ]
            refine take_one (i := 6) rfl (by kernel_rfl) (fun K hK => ?_)
            have hB1 := (hM.b1 _ rfl).1
            obtain ⟨d0, d1, d2, d3, d4, d5⟩ := hB1.inE
            have hy1 := hB1.soft
            obtain ⟨zC, eC, hB2, hl1, hP⟩ := hM.put OW ax cx
            replace hP := hide_it hP
            replace eC := hide_it eC
            clear hB1
            go_simp
            rw [← eC.out]
            clear eC hM d0 d1 d2 d3 d4 d5 hy1
            refine hK.out _ _ ?_ (fun hHeld => ?_)
            · exact hl1
            clear hK K
            try simp only [Act.put, List.setIfInBounds_toArray, List.set_cons_zero, List.set_cons_succ]
            refine take_one (i := 7) rfl (by kernel_rfl) (fun K hK => ?_)
            obtain ⟨d0, d1, d2, d3, d4, d5⟩ := hB2.inE
            have hy2 := hB2.soft
            obtain ⟨zD, eD, hl2, hfi⟩ := hP.out OV ay cy
            replace hfi := hide_it hfi
            replace eD := hide_it eD
            clear hP hB2
            go_simp
            rw [← eD.out]
            clear eD d0 d1 d2 d3 d4 d5 hy2
            refine hK.out _ _ ?_ (fun hHeld => ?_)
            · exact hl2
            clear hK K
            try simp only [Act.put, List.setIfInBounds_toArray, List.set_cons_zero, List.set_cons_succ]
            refine wpAnyH_done (by kernel_rfl) ?_ _
            try go_wp2_with fail
            go_meet
            case rel => exact ⟨_, _, _, _, _, _, rfl, rfl, hfi⟩
    · obtain ⟨zB, eB, hM⟩ := hM.box2
      go_simp
      first | rw [← eB] | rw [show (W7.alloc (.cells #[.int .i64 0, .int .i64 0, .int .i64 0, .string ⟨#[]⟩, .slice none 0 0, .bool false] 24)).drew = zB from eB.symm]
      clear eB
      try change Mk _ _ _ _ _ _ none none none (some W7.heap.size) at hM
      refine hK.out _ _ ?_ (fun hHeld => ?_)
      · exact hM.bel
      clear hK K
      try simp only [Act.put, List.setIfInBounds_toArray, List.set_cons_zero, List.set_cons_succ]
      refine take_two (i := 1) (j := 4) rfl rfl (by kernel_rfl) (fun K hK => ?_) (fun K hK => ?_)
      · go_simp
        refine (hcall1.out _ hHeld).mono ?_
        rintro e z3 ⟨⟨ax, cx, rfl, ho⟩, hb⟩
        replace hM := hM.call1 hb ho
        clear hb ho
        go_wp2_with fail
        refine hK.out _ _ ?_ (fun hHeld => ?_)
        · exact hM.bel
        clear hK K
        try simp only [Act.put, List.setIfInBounds_toArray, List.set_cons_zero, List.set_cons_succ]
        refine take_two (i := 3) (j := 4) rfl rfl (by kernel_rfl) (fun K hK => ?_) (fun K hK => ?_)
        · go_simp
          refine (hcall2.out _ hHeld).mono ?_
          rintro e z4 ⟨⟨ay, cy, rfl, ho⟩, hb⟩
          replace hM := hM.call2 hb ho
          clear hb ho
          go_wp2_with fail
          refine hK.out _ _ ?_ (fun hHeld => ?_)
          · exact hM.bel
          clear hK K
          try simp only [Act.put, List.setIfInBounds_toArray, List.set_cons_zero, List.set_cons_succ]
          refine take_one (i := 4) rfl (by kernel_rfl) (fun K hK => ?_)
          · obtain ⟨zA, eA, hM⟩ := hM.box1
            go_simp
            first | rw [← eA] | rw [show (W7.alloc (.cells #[.int .i64 0, .int .i64 0, .int .i64 0, .string ⟨#[]⟩, .slice none 0 0, .bool false] 24)).drew = zA from eA.symm]
            clear eA
            try change Mk _ _ _ _ _ _ none none (some W7.heap.size) none at hM
            refine hK.out _ _ ?_ (fun hHeld => ?_)
            · exact hM.bel
            clear hK K
            try simp only [Act.put, List.setIfInBounds_toArray, List.set_cons_zero, List.set_cons_succ]
            refine take_one (i := 6) rfl (by kernel_rfl) (fun K hK => ?_)
            have hB1 := (hM.b1 _ rfl).1
            obtain ⟨d0, d1, d2, d3, d4, d5⟩ := hB1.inE
            have hy1 := hB1.soft
            obtain ⟨zC, eC, hB2, hl1, hP⟩ := hM.put OW ax cx
            replace hP := hide_it hP
            replace eC := hide_it eC
            clear hB1
            go_simp
            rw [← eC.out]
            clear eC hM d0 d1 d2 d3 d4 d5 hy1
            refine hK.out _ _ ?_ (fun hHeld => ?_)
            · exact hl1
            clear hK K
            try simp only [Act.put, List.setIfInBounds_toArray, List.set_cons_zero, List.set_cons_succ]
            refine take_one (i := 7) rfl (by kernel_rfl) (fun K hK => ?_)
            obtain ⟨d0, d1, d2, d3, d4, d5⟩ := hB2.inE
            have hy2 := hB2.soft
            obtain ⟨zD, eD, hl2, hfi⟩ := hP.out OV ay cy
            replace hfi := hide_it hfi
            replace eD := hide_it eD
            clear hP hB2
            go_simp
            rw [← eD.out]
            clear eD d0 d1 d2 d3 d4 d5 hy2
            refine hK.out _ _ ?_ (fun hHeld => ?_)
            · exact hl2
            clear hK K
            try simp only [Act.put, List.setIfInBounds_toArray, List.set_cons_zero, List.set_cons_succ]
            refine wpAnyH_done (by kernel_rfl) ?_ _
            try go_wp2_with fail
            go_meet
            case rel => exact ⟨_, _, _, _, _, _, rfl, rfl, hfi⟩
        · obtain ⟨zA, eA, hM⟩ := hM.box1
          go_simp
          first | rw [← eA] | rw [show (W7.alloc (.cells #[.int .i64 0, .int .i64 0, .int .i64 0, .string ⟨#[]⟩, .slice none 0 0, .bool false] 24)).drew = zA from eA.symm]
          clear eA
          try change Mk _ _ _ _ _ _ none none (some W7.heap.size) none at hM
          refine hK.out _ _ ?_ (fun hHeld => ?_)
          · exact hM.bel
          clear hK K
          try simp only [Act.put, List.setIfInBounds_toArray, List.set_cons_zero, List.set_cons_succ]
          refine take_one (i := 3) rfl (by kernel_rfl) (fun K hK => ?_)
          · go_simp
            refine (hcall2.out _ hHeld).mono ?_
            rintro e z4 ⟨⟨ay, cy, rfl, ho⟩, hb⟩
            replace hM := hM.call2 hb ho
            clear hb ho
            go_wp2_with fail
            refine hK.out _ _ ?_ (fun hHeld => ?_)
            · exact hM.bel
            clear hK K
            try simp only [Act.put, List.setIfInBounds_toArray, List.set_cons_zero, List.set_cons_succ]
            refine take_one (i := 6) rfl (by kernel_rfl) (fun K hK => ?_)
            have hB1 := (hM.b1 _ rfl).1
            obtain ⟨d0, d1, d2, d3, d4, d5⟩ := hB1.inE
            have hy1 := hB1.soft
            obtain ⟨zC, eC, hB2, hl1, hP⟩ := hM.put OW ax cx
            replace hP := hide_it hP
            replace eC := hide_it eC
            clear hB1
            go_simp
            rw [← eC.out]
            clear eC hM d0 d1 d2 d3 d4 d5 hy1
            refine hK.out _ _ ?_ (fun hHeld => ?_)
            · exact hl1
            clear hK K
            try simp only [Act.put, List.setIfInBounds_toArray, List.set_cons_zero, List.set_cons_succ]
            refine take_one (i := 7) rfl (by kernel_rfl) (fun K hK => ?_)
            obtain ⟨d0, d1, d2, d3, d4, d5⟩ := hB2.inE
            have hy2 := hB2.soft
            obtain ⟨zD, eD, hl2, hfi⟩ := hP.out OV ay cy
            replace hfi := hide_it hfi
            replace eD := hide_it eD
            clear hP hB2
            go_simp
            rw [← eD.out]
            clear eD d0 d1 d2 d3 d4 d5 hy2
            refine hK.out _ _ ?_ (fun hHeld => ?_)
            · exact hl2
            clear hK K
            try simp only [Act.put, List.setIfInBounds_toArray, List.set_cons_zero, List.set_cons_succ]
            refine wpAnyH_done (by kernel_rfl) ?_ _
            try go_wp2_with fail
            go_meet
            case rel => exact ⟨_, _, _, _, _, _, rfl, rfl, hfi⟩
      · obtain ⟨zA, eA, hM⟩ := hM.box1
        go_simp
        first | rw [← eA] | rw [show (W7.alloc (.cells #[.int .i64 0, .int .i64 0, .int .i64 0, .string ⟨#[]⟩, .slice none 0 0, .bool false] 24)).drew = zA from eA.symm]
        clear eA
        try change Mk _ _ _ _ _ _ none none (some W7.heap.size) none at hM
        refine hK.out _ _ ?_ (fun hHeld => ?_)
        · exact hM.bel
        clear hK K
        try simp only [Act.put, List.setIfInBounds_toArray, List.set_cons_zero, List.set_cons_succ]
        refine take_one (i := 1) rfl (by kernel_rfl) (fun K hK => ?_)
        · go_simp
          refine (hcall1.out _ hHeld).mono ?_
          rintro e z3 ⟨⟨ax, cx, rfl, ho⟩, hb⟩
          replace hM := hM.call1 hb ho
          clear hb ho
          go_wp2_with fail
          refine hK.out _ _ ?_ (fun hHeld => ?_)
          · exact hM.bel
          clear hK K
          try simp only [Act.put, List.setIfInBounds_toArray, List.set_cons_zero, List.set_cons_succ]
          refine take_one (i := 3) rfl (by kernel_rfl) (fun K hK => ?_)
          · go_simp
            refine (hcall2.out _ hHeld).mono ?_
            rintro e z4 ⟨⟨ay, cy, rfl, ho⟩, hb⟩
            replace hM := hM.call2 hb ho
            clear hb ho
            go_wp2_with fail
            refine hK.out _ _ ?_ (fun hHeld => ?_)
            · exact hM.bel
            clear hK K
            try simp only [Act.put, List.setIfInBounds_toArray, List.set_cons_zero, List.set_cons_succ]
            refine take_one (i := 6) rfl (by kernel_rfl) (fun K hK => ?_)
            have hB1 := (hM.b1 _ rfl).1
            obtain ⟨d0, d1, d2, d3, d4, d5⟩ := hB1.inE
            have hy1 := hB1.soft
            obtain ⟨zC, eC, hB2, hl1, hP⟩ := hM.put OW ax cx
            replace hP := hide_it hP
            replace eC := hide_it eC
            clear hB1
            go_simp
            rw [← eC.out]
            clear eC hM d0 d1 d2 d3 d4 d5 hy1
            refine hK.out _ _ ?_ (fun hHeld => ?_)
            · exact hl1
            clear hK K
            try simp only [Act.put, List.setIfInBounds_toArray, List.set_cons_zero, List.set_cons_succ]
            refine take_one (i := 7) rfl (by kernel_rfl) (fun K hK => ?_)
            obtain ⟨d0, d1, d2, d3, d4, d5⟩ := hB2.inE
            have hy2 := hB2.soft
            obtain ⟨zD, eD, hl2, hfi⟩ := hP.out OV ay cy
            replace hfi := hide_it hfi
            replace eD := hide_it eD
            clear hP hB2
            go_simp
            rw [← eD.out]
            clear eD d0 d1 d2 d3 d4 d5 hy2
            refine hK.out _ _ ?_ (fun hHeld => ?_)
            · exact hl2
            clear hK K
            try simp only [Act.put, List.setIfInBounds_toArray, List.set_cons_zero, List.set_cons_succ]
            refine wpAnyH_done (by kernel_rfl) ?_ _
            try go_wp2_with fail
            go_meet
            case rel => exact ⟨_, _, _, _, _, _, rfl, rfl, hfi⟩
  case rest =>
  obtain ⟨X, Y, ax, cx, ay, cy, rfl, rfl, hK8⟩ := hcut
  clear hcall1 hcall2 hM hro K7' g0 g1 g2 g3 hlt9
  obtain ⟨W8, rfl⟩ : ∃ x, x = wc := ⟨_, rfl⟩
  have hrf := own_front (hK8.out.apt.own 1 _ rfl)
  obtain ⟨c0, c1, c2, c3, c4, c5⟩ := (hK8.out.ens 1 _ rfl).1.inE
  simp only at c0 c1 c2 c3 c4 c5
  have hx := version_any ⟨kind, stamp, count, key, val, dead⟩ (some ad) cf W8 hrf (by simp only; omega) (fun e => by cases e)
  obtain ⟨VV, hVV⟩ : ∃ x, x = versionV ⟨kind, stamp, count, key, val, dead⟩ := ⟨_, rfl⟩
  obtain ⟨vb, hvb⟩ : ∃ x, x = isV ⟨kind, stamp, count, key, val, dead⟩ := ⟨_, rfl⟩
  unfold VnTo at hx
  rw [← hVV, ← hvb] at hx
  replace hVV := hide_it hVV
  replace hvb := hide_it hvb
  go_wp2_with fail
  refine hx.mono ?_
  rintro e W9 ⟨⟨az, cz, rfl, ho⟩, hb⟩
  have hK9 := hide_it ((hK8.out.push hb ho).newV VV az cz)
  have hlt8 := (hK8.out.ens 1 _ rfl).1.lt
  have d := (hK8.out.push hb ho).ens 1 _ rfl
  clear c0 c1 c2 c3 c4 c5
  obtain ⟨c0, c1, c2, c3, c4, c5⟩ := d.1.inE
  have hlt9 := d.1.lt
  simp only at c0 c1 c2 c3 c4 c5 hlt8 hlt9
  clear hx hb ho hK8 d hrf hlt8
  obtain ⟨W10, hW10⟩ : ∃ W, W = boxV W9 VV az cz := ⟨_, rfl⟩
  rw [← hW10] at hK9
  have hx := check_any ⟨kind, stamp, count, key, val, dead⟩ (some ad) cf W10
  go_wp2_with fail
  change Calls _ _ _ (boxV W9 VV az cz) _
  rw [← hW10]
  clear hW10 c0 c1 c2 c3 c4 c5 hlt9
  obtain ⟨E16, hE16⟩ : ∃ E, E = W9.heap.size := ⟨_, rfl⟩
  rw [← hE16] at hK9 ⊢
  clear hE16
  refine hx.mono ?_
  rintro e W11 ⟨rfl, hb⟩
  have hK11 : Hid (Ks w W11 [(.slice aw F.length cw, F), (.slice (some ad) (val.length + 70) cf, val ++ marks 70), (.slice a10 F.length c10, F), (.slice a12 F.length c12, F), (.slice ax OW.val.length cx, OW.val), (.slice ay OV.val.length cy, OV.val), (.slice az VV.val.length cz, VV.val)] [(w.heap.size, ⟨kind, stamp, count, key, val, dead⟩, a, c), (E8, ⟨kind, stamp, count, key, val, dead⟩, some ad, cf), (X, OW, ax, cx), (Y, OV, ay, cy)] [(E9, ⟨key, stamp, val, dead⟩, some ad, cf), (E16, VV, az, cz)]) := hide_it (hK9.out.below hb)
  clear hx hb hK9
  have hst := stays_any (some ad) a cf c val W11 (own_row (hK11.out.apt.own 1 _ rfl)).1 (hrow.below hK11.out.bel) hv8 (by omega)
  obtain ⟨c0, c1, c2, c3, c4, c5⟩ := (hK11.out.ens 0 _ rfl).1.inE
  simp only at c0 c1 c2 c3 c4 c5
  go_wp2_with fail
  refine hst.mono ?_
  rintro e W12 ⟨rfl, hb⟩
  have hK12 := hide_it (hK11.out.below hb)
  clear hst hb hK11 c0 c1 c2 c3 c4 c5
  obtain ⟨g0, g1, g2, g3⟩ := (hK12.out.vns 0 _ rfl).cells
  simp only at g0 g1 g2 g3
  have hlt9 := (hK12.out.vns 0 _ rfl).lt
  simp only at hlt9
  go_wp2_with fail
  have hM := Mk.start hK12.out
  have hro := hide_it (own_front (hK12.out.apt.own 1 _ rfl))
  have hcall1 : Hid (∀ W, Below W12.heap.size W12 W → Calls Try.prog 13 #[valV ⟨key, stamp, val, dead⟩ (some ad) cf] W fun e w' => EnTo W (ofWriteE ⟨key, stamp, val, dead⟩) e w') := fun W h => rofWrite_any ⟨key, stamp, val, dead⟩ (some ad) cf W (hro.out.below h) (by simp only; omega) (fun e => by cases e)
  have hcall2 : Hid (∀ W, Below W12.heap.size W12 W → Calls Try.prog 14 #[valV ⟨key, stamp, val, dead⟩ (some ad) cf] W fun e w' => EnTo W (ofVersionE ⟨key, stamp, val, dead⟩) e w') := fun W h => rofVersion_any ⟨key, stamp, val, dead⟩ (some ad) cf W (hro.out.below h) (by simp only; omega) (fun e => by cases e)
  rw [← hOW.out] at hcall1
  rw [← hOV.out] at hcall2
  go_cut [18, 19] from 83 to 86 (fun x e wc => ∃ X' Y' ax' cx' ay' cy', x = .pointer (some ⟨X', 0, none⟩) ∧ e = .pointer (some ⟨Y', 0, none⟩) ∧ Hid (Ks w wc [(.slice aw F.length cw, F), (.slice (some ad) (val.length + 70) cf, val ++ marks 70), (.slice a10 F.length c10, F), (.slice a12 F.length c12, F), (.slice ax OW.val.length cx, OW.val), (.slice ay OV.val.length cy, OV.val), (.slice az VV.val.length cz, VV.val), (.slice ax' OW.val.length cx', OW.val), (.slice ay' OV.val.length cy', OV.val)] [(w.heap.size, ⟨kind, stamp, count, key, val, dead⟩, a, c), (E8, ⟨kind, stamp, count, key, val, dead⟩, some ad, cf), (X, OW, ax, cx), (Y, OV, ay, cy), (X', OW, ax', cx'), (Y', OV, ay', cy')] [(E9, ⟨key, stamp, val, dead⟩, some ad, cf), (E16, VV, az, cz)]))
  case first =>
    refine wp_region_held_drew (S := (fun w' => Below W12.heap.size W12 w')) (by kernel_rfl) ?_ (fun hHeld => ?_)
    · exact (Below.refl _ _).drew
    refine take_on (i := 0) (v := ?_) rfl rfl (by kernel_rfl) (by kernel_rfl) (by kernel_rfl) (fun _ _ _ h => h) rfl ?_ hHeld ?_
    rotate_left
    · (intro wq hSq; have q0 := (hSq.cell (p := ⟨E9, 0, none⟩) hlt9).trans g0; have q1 := (hSq.cell (p := ⟨E9, 1, none⟩) hlt9).trans g1; have q2 := (hSq.cell (p := ⟨E9, 2, none⟩) hlt9).trans g2; have q3 := (hSq.cell (p := ⟨E9, 3, none⟩) hlt9).trans g3; go_simp <;> first | with_reducible rfl | rfl)
    simp only [Act.put, List.setIfInBounds_toArray, List.set_cons_zero, List.set_cons_succ]
    refine take_on (i := 2) (v := ?_) rfl rfl (by kernel_rfl) (by kernel_rfl) (by kernel_rfl) (fun _ _ _ h => h) rfl ?_ hHeld ?_
    rotate_left
    · (intro wq hSq; have q0 := (hSq.cell (p := ⟨E9, 0, none⟩) hlt9).trans g0; have q1 := (hSq.cell (p := ⟨E9, 1, none⟩) hlt9).trans g1; have q2 := (hSq.cell (p := ⟨E9, 2, none⟩) hlt9).trans g2; have q3 := (hSq.cell (p := ⟨E9, 3, none⟩) hlt9).trans g3; go_simp <;> first | with_reducible rfl | rfl)
    simp only [Act.put, List.setIfInBounds_toArray, List.set_cons_zero, List.set_cons_succ]
    refine take_three (i := 1) (j := 4) (l := 5) rfl rfl rfl (by kernel_rfl) (fun K hK => ?_) (fun K hK => ?_) (fun K hK => ?_)
    · go_simp
      refine (hcall1.out _ hHeld).mono ?_
      rintro e z3 ⟨⟨ax', cx', rfl, ho⟩, hb⟩
      replace hM := hM.call1 hb ho
      clear hb ho
      go_wp2_with fail
      refine hK.out _ _ ?_ (fun hHeld => ?_)
      · exact hM.bel
      clear hK K
      try simp only [Act.put, List.setIfInBounds_toArray, List.set_cons_zero, List.set_cons_succ]
      refine take_three (i := 3) (j := 4) (l := 5) rfl rfl rfl (by kernel_rfl) (fun K hK => ?_) (fun K hK => ?_) (fun K hK => ?_)
      · go_simp
        refine (hcall2.out _ hHeld).mono ?_
        rintro e z4 ⟨⟨ay', cy', rfl, ho⟩, hb⟩
        replace hM := hM.call2 hb ho
        clear hb ho
        go_wp2_with fail
        refine hK.out _ _ ?_ (fun hHeld => ?_)
        · exact hM.bel
        clear hK K
        try simp only [Act.put, List.setIfInBounds_toArray, List.set_cons_zero, List.set_cons_succ]
        refine take_two (i := 4) (j := 5) rfl rfl (by kernel_rfl) (fun K hK => ?_) (fun K hK => ?_)
        · obtain ⟨zA, eA, hM⟩ := hM.box1
          go_simp
          first | rw [← eA] | rw [show (W12.alloc (.cells #[.int .i64 0, .int .i64 0, .int .i64 0, .string ⟨#[]⟩, .slice none 0 0, .bool false] 24)).drew = zA from eA.symm]
          clear eA
          try change Mk _ _ _ _ _ _ none none (some W12.heap.size) none at hM
          refine hK.out _ _ ?_ (fun hHeld => ?_)
          · exact hM.bel
          clear hK K
          try simp only [Act.put, List.setIfInBounds_toArray, List.set_cons_zero, List.set_cons_succ]
          refine take_one (i := 5) rfl (by kernel_rfl) (fun K hK => ?_)
          · obtain ⟨zB, eB, hM⟩ := hM.box2
            go_simp
            first | rw [← eB] | rw [show (W12.alloc (.cells #[.int .i64 0, .int .i64 0, .int .i64 0, .string ⟨#[]⟩, .slice none 0 0, .bool false] 24)).drew = zB from eB.symm]
            clear eB
            try change Mk _ _ _ _ _ _ none none none (some W12.heap.size) at hM
            refine hK.out _ _ ?_ (fun hHeld => ?_)
            · exact hM.bel
            clear hK K
            try simp only [Act.put, List.setIfInBounds_toArray, List.set_cons_zero, List.set_cons_succ]
            refine take_one (i := 6) rfl (by kernel_rfl) (fun K hK => ?_)
            have hB1 := (hM.b1 _ rfl).1
            obtain ⟨d0, d1, d2, d3, d4, d5⟩ := hB1.inE
            have hy1 := hB1.soft
            obtain ⟨zC, eC, hB2, hl1, hP⟩ := hM.put OW ax' cx'
            replace hP := hide_it hP
            replace eC := hide_it eC
            clear hB1
            go_simp
            rw [← eC.out]
            clear eC hM d0 d1 d2 d3 d4 d5 hy1
            refine hK.out _ _ ?_ (fun hHeld => ?_)
            · exact hl1
            clear hK K
            try simp only [Act.put, List.setIfInBounds_toArray, List.set_cons_zero, List.set_cons_succ]
            refine take_one (i := 7) rfl (by kernel_rfl) (fun K hK => ?_)
            obtain ⟨d0, d1, d2, d3, d4, d5⟩ := hB2.inE
            have hy2 := hB2.soft
            obtain ⟨zD, eD, hl2, hfi⟩ := hP.out OV ay' cy'
            replace hfi := hide_it hfi
            replace eD := hide_it eD
            clear hP hB2
            go_simp
            rw [← eD.out]
            clear eD d0 d1 d2 d3 d4 d5 hy2
            refine hK.out _ _ ?_ (fun hHeld => ?_)
            · exact hl2
            clear hK K
            try simp only [Act.put, List.setIfInBounds_toArray, List.set_cons_zero, List.set_cons_succ]
            refine wpAnyH_done (by kernel_rfl) ?_ _
            try go_wp2_with fail
            go_meet
            case rel => exact ⟨_, _, _, _, _, _, rfl, rfl, hfi⟩
        · obtain ⟨zB, eB, hM⟩ := hM.box2
          go_simp
          first | rw [← eB] | rw [show (W12.alloc (.cells #[.int .i64 0, .int .i64 0, .int .i64 0, .string ⟨#[]⟩, .slice none 0 0, .bool false] 24)).drew = zB from eB.symm]
          clear eB
          try change Mk _ _ _ _ _ _ none none none (some W12.heap.size) at hM
          refine hK.out _ _ ?_ (fun hHeld => ?_)
          · exact hM.bel
          clear hK K
          try simp only [Act.put, List.setIfInBounds_toArray, List.set_cons_zero, List.set_cons_succ]
          refine take_one (i := 4) rfl (by kernel_rfl) (fun K hK => ?_)
          · obtain ⟨zA, eA, hM⟩ := hM.box1
            go_simp
            first | rw [← eA] | rw [show (W12.alloc (.cells #[.int .i64 0, .int .i64 0, .int .i64 0, .string ⟨#[]⟩, .slice none 0 0, .bool false] 24)).drew = zA from eA.symm]
            clear eA
            try change Mk _ _ _ _ _ _ none none (some W12.heap.size) none at hM
            refine hK.out _ _ ?_ (fun hHeld => ?_)
            · exact hM.bel
            clear hK K
            try simp only [Act.put, List.setIfInBounds_toArray, List.set_cons_zero, List.set_cons_succ]
            refine take_one (i := 6) rfl (by kernel_rfl) (fun K hK => ?_)
            have hB1 := (hM.b1 _ rfl).1
            obtain ⟨d0, d1, d2, d3, d4, d5⟩ := hB1.inE
            have hy1 := hB1.soft
            obtain ⟨zC, eC, hB2, hl1, hP⟩ := hM.put OW ax' cx'
            replace hP := hide_it hP
            replace eC := hide_it eC
            clear hB1
            go_simp
            rw [← eC.out]
            clear eC hM d0 d1 d2 d3 d4 d5 hy1
            refine hK.out _ _ ?_ (fun hHeld => ?_)
            · exact hl1
            clear hK K
            try simp only [Act.put, List.setIfInBounds_toArray, List.set_cons_zero, List.set_cons_succ]
            refine take_one (i := 7) rfl (by kernel_rfl) (fun K hK => ?_)
            obtain ⟨d0, d1, d2, d3, d4, d5⟩ := hB2.inE
            have hy2 := hB2.soft
            obtain ⟨zD, eD, hl2, hfi⟩ := hP.out OV ay' cy'
            replace hfi := hide_it hfi
            replace eD := hide_it eD
            clear hP hB2
            go_simp
            rw [← eD.out]
            clear eD d0 d1 d2 d3 d4 d5 hy2
            refine hK.out _ _ ?_ (fun hHeld => ?_)
            · exact hl2
            clear hK K
            try simp only [Act.put, List.setIfInBounds_toArray, List.set_cons_zero, List.set_cons_succ]
            refine wpAnyH_done (by kernel_rfl) ?_ _
            try go_wp2_with fail
            go_meet
            case rel => exact ⟨_, _, _, _, _, _, rfl, rfl, hfi⟩
      · obtain ⟨zA, eA, hM⟩ := hM.box1
        go_simp
        first | rw [← eA] | rw [show (W12.alloc (.cells #[.int .i64 0, .int .i64 0, .int .i64 0, .string ⟨#[]⟩, .slice none 0 0, .bool false] 24)).drew = zA from eA.symm]
        clear eA
        try change Mk _ _ _ _ _ _ none none (some W12.heap.size) none at hM
        refine hK.out _ _ ?_ (fun hHeld => ?_)
        · exact hM.bel
        clear hK K
        try simp only [Act.put, List.setIfInBounds_toArray, List.set_cons_zero, List.set_cons_succ]
        refine take_two (i := 3) (j := 5) rfl rfl (by kernel_rfl) (fun K hK => ?_) (fun K hK => ?_)
        · go_simp
          refine (hcall2.out _ hHeld).mono ?_
          rintro e z4 ⟨⟨ay', cy', rfl, ho⟩, hb⟩
          replace hM := hM.call2 hb ho
          clear hb ho
          go_wp2_with fail
          refine hK.out _ _ ?_ (fun hHeld => ?_)
          · exact hM.bel
          clear hK K
          try simp only [Act.put, List.setIfInBounds_toArray, List.set_cons_zero, List.set_cons_succ]
          refine take_one (i := 5) rfl (by kernel_rfl) (fun K hK => ?_)
          · obtain ⟨zB, eB, hM⟩ := hM.box2
            go_simp
            first | rw [← eB] | rw [show (W12.alloc (.cells #[.int .i64 0, .int .i64 0, .int .i64 0, .string ⟨#[]⟩, .slice none 0 0, .bool false] 24)).drew = zB from eB.symm]
            clear eB
            try change Mk _ _ _ _ _ _ none none none (some W12.heap.size) at hM
            refine hK.out _ _ ?_ (fun hHeld => ?_)
            · exact hM.bel
            clear hK K
            try simp only [Act.put, List.setIfInBounds_toArray, List.set_cons_zero, List.set_cons_succ]
            refine take_one (i := 6) rfl (by kernel_rfl) (fun K hK => ?_)
            have hB1 := (hM.b1 _ rfl).1
            obtain ⟨d0, d1, d2, d3, d4, d5⟩ := hB1.inE
            have hy1 := hB1.soft
            obtain ⟨zC, eC, hB2, hl1, hP⟩ := hM.put OW ax' cx'
            replace hP := hide_it hP
            replace eC := hide_it eC
            clear hB1
            go_simp
            rw [← eC.out]
            clear eC hM d0 d1 d2 d3 d4 d5 hy1
            refine hK.out _ _ ?_ (fun hHeld => ?_)
            · exact hl1
            clear hK K
            try simp only [Act.put, List.setIfInBounds_toArray, List.set_cons_zero, List.set_cons_succ]
            refine take_one (i := 7) rfl (by kernel_rfl) (fun K hK => ?_)
            obtain ⟨d0, d1, d2, d3, d4, d5⟩ := hB2.inE
            have hy2 := hB2.soft
            obtain ⟨zD, eD, hl2, hfi⟩ := hP.out OV ay' cy'
            replace hfi := hide_it hfi
            replace eD := hide_it eD
            clear hP hB2
            go_simp
            rw [← eD.out]
            clear eD d0 d1 d2 d3 d4 d5 hy2
            refine hK.out _ _ ?_ (fun hHeld => ?_)
            · exact hl2
            clear hK K
            try simp only [Act.put, List.setIfInBounds_toArray, List.set_cons_zero, List.set_cons_succ]
            refine wpAnyH_done (by kernel_rfl) ?_ _
            try go_wp2_with fail
            go_meet
            case rel => exact ⟨_, _, _, _, _, _, rfl, rfl, hfi⟩
        · obtain ⟨zB, eB, hM⟩ := hM.box2
          go_simp
          first | rw [← eB] | rw [show (W12.alloc (.cells #[.int .i64 0, .int .i64 0, .int .i64 0, .string ⟨#[]⟩, .slice none 0 0, .bool false] 24)).drew = zB from eB.symm]
          clear eB
          try change Mk _ _ _ _ _ _ none none none (some W12.heap.size) at hM
          refine hK.out _ _ ?_ (fun hHeld => ?_)
          · exact hM.bel
          clear hK K
          try simp only [Act.put, List.setIfInBounds_toArray, List.set_cons_zero, List.set_cons_succ]
          refine take_one (i := 3) rfl (by kernel_rfl) (fun K hK => ?_)
          · go_simp
            refine (hcall2.out _ hHeld).mono ?_
            rintro e z4 ⟨⟨ay', cy', rfl, ho⟩, hb⟩
            replace hM := hM.call2 hb ho
            clear hb ho
            go_wp2_with fail
            refine hK.out _ _ ?_ (fun hHeld => ?_)
            · exact hM.bel
            clear hK K
            try simp only [Act.put, List.setIfInBounds_toArray, List.set_cons_zero, List.set_cons_succ]
            refine take_one (i := 6) rfl (by kernel_rfl) (fun K hK => ?_)
            have hB1 := (hM.b1 _ rfl).1
            obtain ⟨d0, d1, d2, d3, d4, d5⟩ := hB1.inE
            have hy1 := hB1.soft
            obtain ⟨zC, eC, hB2, hl1, hP⟩ := hM.put OW ax' cx'
            replace hP := hide_it hP
            replace eC := hide_it eC
            clear hB1
            go_simp
            rw [← eC.out]
            clear eC hM d0 d1 d2 d3 d4 d5 hy1
            refine hK.out _ _ ?_ (fun hHeld => ?_)
            · exact hl1
            clear hK K
            try simp only [Act.put, List.setIfInBounds_toArray, List.set_cons_zero, List.set_cons_succ]
            refine take_one (i := 7) rfl (by kernel_rfl) (fun K hK => ?_)
            obtain ⟨d0, d1, d2, d3, d4, d5⟩ := hB2.inE
            have hy2 := hB2.soft
            obtain ⟨zD, eD, hl2, hfi⟩ := hP.out OV ay' cy'
            replace hfi := hide_it hfi
            replace eD := hide_it eD
            clear hP hB2
            go_simp
            rw [← eD.out]
            clear eD d0 d1 d2 d3 d4 d5 hy2
            refine hK.out _ _ ?_ (fun hHeld => ?_)
            · exact hl2
            clear hK K
            try simp only [Act.put, List.setIfInBounds_toArray, List.set_cons_zero, List.set_cons_succ]
            refine wpAnyH_done (by kernel_rfl) ?_ _
            try go_wp2_with fail
            go_meet
            case rel => exact ⟨_, _, _, _, _, _, rfl, rfl, hfi⟩
      · obtain ⟨zB, eB, hM⟩ := hM.box2
        go_simp
        first | rw [← eB] | rw [show (W12.alloc (.cells #[.int .i64 0, .int .i64 0, .int .i64 0, .string ⟨#[]⟩, .slice none 0 0, .bool false] 24)).drew = zB from eB.symm]
        clear eB
        try change Mk _ _ _ _ _ _ none none none (some W12.heap.size) at hM
        refine hK.out _ _ ?_ (fun hHeld => ?_)
        · exact hM.bel
        clear hK K
        try simp only [Act.put, List.setIfInBounds_toArray, List.set_cons_zero, List.set_cons_succ]
        refine take_two (i := 3) (j := 4) rfl rfl (by kernel_rfl) (fun K hK => ?_) (fun K hK => ?_)
        · go_simp
          refine (hcall2.out _ hHeld).mono ?_
          rintro e z4 ⟨⟨ay', cy', rfl, ho⟩, hb⟩
          replace hM := hM.call2 hb ho
          clear hb ho
          go_wp2_with fail
          refine hK.out _ _ ?_ (fun hHeld => ?_)
          · exact hM.bel
          clear hK K
          try simp only [Act.put, List.setIfInBounds_toArray, List.set_cons_zero, List.set_cons_succ]
          refine take_one (i := 4) rfl (by kernel_rfl) (fun K hK => ?_)
          · obtain ⟨zA, eA, hM⟩ := hM.box1
            go_simp
            first | rw [← eA] | rw [show (W12.alloc (.cells #[.int .i64 0, .int .i64 0, .int .i64 0, .string ⟨#[]⟩, .slice none 0 0, .bool false] 24)).drew = zA from eA.symm]
            clear eA
            try change Mk _ _ _ _ _ _ none none (some W12.heap.size) none at hM
            refine hK.out _ _ ?_ (fun hHeld => ?_)
            · exact hM.bel
            clear hK K
            try simp only [Act.put, List.setIfInBounds_toArray, List.set_cons_zero, List.set_cons_succ]
            refine take_one (i := 6) rfl (by kernel_rfl) (fun K hK => ?_)
            have hB1 := (hM.b1 _ rfl).1
            obtain ⟨d0, d1, d2, d3, d4, d5⟩ := hB1.inE
            have hy1 := hB1.soft
            obtain ⟨zC, eC, hB2, hl1, hP⟩ := hM.put OW ax' cx'
            replace hP := hide_it hP
            replace eC := hide_it eC
            clear hB1
            go_simp
            rw [← eC.out]
            clear eC hM d0 d1 d2 d3 d4 d5 hy1
            refine hK.out _ _ ?_ (fun hHeld => ?_)
            · exact hl1
            clear hK K
            try simp only [Act.put, List.setIfInBounds_toArray, List.set_cons_zero, List.set_cons_succ]
            refine take_one (i := 7) rfl (by kernel_rfl) (fun K hK => ?_)
            obtain ⟨d0, d1, d2, d3, d4, d5⟩ := hB2.inE
            have hy2 := hB2.soft
            obtain ⟨zD, eD, hl2, hfi⟩ := hP.out OV ay' cy'
            replace hfi := hide_it hfi
            replace eD := hide_it eD
            clear hP hB2
            go_simp
            rw [← eD.out]
            clear eD d0 d1 d2 d3 d4 d5 hy2
            refine hK.out _ _ ?_ (fun hHeld => ?_)
            · exact hl2
            clear hK K
            try simp only [Act.put, List.setIfInBounds_toArray, List.set_cons_zero, List.set_cons_succ]
            refine wpAnyH_done (by kernel_rfl) ?_ _
            try go_wp2_with fail
            go_meet
            case rel => exact ⟨_, _, _, _, _, _, rfl, rfl, hfi⟩
        · obtain ⟨zA, eA, hM⟩ := hM.box1
          go_simp
          first | rw [← eA] | rw [show (W12.alloc (.cells #[.int .i64 0, .int .i64 0, .int .i64 0, .string ⟨#[]⟩, .slice none 0 0, .bool false] 24)).drew = zA from eA.symm]
          clear eA
          try change Mk _ _ _ _ _ _ none none (some W12.heap.size) none at hM
          refine hK.out _ _ ?_ (fun hHeld => ?_)
          · exact hM.bel
          clear hK K
          try simp only [Act.put, List.setIfInBounds_toArray, List.set_cons_zero, List.set_cons_succ]
          refine take_one (i := 3) rfl (by kernel_rfl) (fun K hK => ?_)
          · go_simp
            refine (hcall2.out _ hHeld).mono ?_
            rintro e z4 ⟨⟨ay', cy', rfl, ho⟩, hb⟩
            replace hM := hM.call2 hb ho
            clear hb ho
            go_wp2_with fail
            refine hK.out _ _ ?_ (fun hHeld => ?_)
            · exact hM.bel
            clear hK K
            try simp only [Act.put, List.setIfInBounds_toArray, List.set_cons_zero, List.set_cons_succ]
            refine take_one (i := 6) rfl (by kernel_rfl) (fun K hK => ?_)
            have hB1 := (hM.b1 _ rfl).1
            obtain ⟨d0, d1, d2, d3, d4, d5⟩ := hB1.inE
            have hy1 := hB1.soft
            obtain ⟨zC, eC, hB2, hl1, hP⟩ := hM.put OW ax' cx'
            replace hP := hide_it hP
            replace eC := hide_it eC
            clear hB1
            go_simp
            rw [← eC.out]
            clear eC hM d0 d1 d2 d3 d4 d5 hy1
            refine hK.out _ _ ?_ (fun hHeld => ?_)
            · exact hl1
            clear hK K
            try simp only [Act.put, List.setIfInBounds_toArray, List.set_cons_zero, List.set_cons_succ]
            refine take_one (i := 7) rfl (by kernel_rfl) (fun K hK => ?_)
            obtain ⟨d0, d1, d2, d3, d4, d5⟩ := hB2.inE
            have hy2 := hB2.soft
            obtain ⟨zD, eD, hl2, hfi⟩ := hP.out OV ay' cy'
            replace hfi := hide_it hfi
            replace eD := hide_it eD
            clear hP hB2
            go_simp
            rw [← eD.out]
            clear eD d0 d1 d2 d3 d4 d5 hy2
            refine hK.out _ _ ?_ (fun hHeld => ?_)
            · exact hl2
            clear hK K
            try simp only [Act.put, List.setIfInBounds_toArray, List.set_cons_zero, List.set_cons_succ]
            refine wpAnyH_done (by kernel_rfl) ?_ _
            try go_wp2_with fail
            go_meet
            case rel => exact ⟨_, _, _, _, _, _, rfl, rfl, hfi⟩
    · obtain ⟨zA, eA, hM⟩ := hM.box1
      go_simp
      first | rw [← eA] | rw [show (W12.alloc (.cells #[.int .i64 0, .int .i64 0, .int .i64 0, .string ⟨#[]⟩, .slice none 0 0, .bool false] 24)).drew = zA from eA.symm]
      clear eA
      try change Mk _ _ _ _ _ _ none none (some W12.heap.size) none at hM
      refine hK.out _ _ ?_ (fun hHeld => ?_)
      · exact hM.bel
      clear hK K
      try simp only [Act.put, List.setIfInBounds_toArray, List.set_cons_zero, List.set_cons_succ]
      refine take_two (i := 1) (j := 5) rfl rfl (by kernel_rfl) (fun K hK => ?_) (fun K hK => ?_)
      · go_simp
        refine (hcall1.out _ hHeld).mono ?_
        rintro e z3 ⟨⟨ax', cx', rfl, ho⟩, hb⟩
        replace hM := hM.call1 hb ho
        clear hb ho
        go_wp2_with fail
        refine hK.out _ _ ?_ (fun hHeld => ?_)
        · exact hM.bel
        clear hK K
        try simp only [Act.put, List.setIfInBounds_toArray, List.set_cons_zero, List.set_cons_succ]
        refine take_two (i := 3) (j := 5) rfl rfl (by kernel_rfl) (fun K hK => ?_) (fun K hK => ?_)
        · go_simp
          refine (hcall2.out _ hHeld).mono ?_
          rintro e z4 ⟨⟨ay', cy', rfl, ho⟩, hb⟩
          replace hM := hM.call2 hb ho
          clear hb ho
          go_wp2_with fail
          refine hK.out _ _ ?_ (fun hHeld => ?_)
          · exact hM.bel
          clear hK K
          try simp only [Act.put, List.setIfInBounds_toArray, List.set_cons_zero, List.set_cons_succ]
          refine take_one (i := 5) rfl (by kernel_rfl) (fun K hK => ?_)
          · obtain ⟨zB, eB, hM⟩ := hM.box2
            go_simp
            first | rw [← eB] | rw [show (W12.alloc (.cells #[.int .i64 0, .int .i64 0, .int .i64 0, .string ⟨#[]⟩, .slice none 0 0, .bool false] 24)).drew = zB from eB.symm]
            clear eB
            try change Mk _ _ _ _ _ _ none none none (some W12.heap.size) at hM
            refine hK.out _ _ ?_ (fun hHeld => ?_)
            · exact hM.bel
            clear hK K
            try simp only [Act.put, List.setIfInBounds_toArray, List.set_cons_zero, List.set_cons_succ]
            refine take_one (i := 6) rfl (by kernel_rfl) (fun K hK => ?_)
            have hB1 := (hM.b1 _ rfl).1
            obtain ⟨d0, d1, d2, d3, d4, d5⟩ := hB1.inE
            have hy1 := hB1.soft
            obtain ⟨zC, eC, hB2, hl1, hP⟩ := hM.put OW ax' cx'
            replace hP := hide_it hP
            replace eC := hide_it eC
            clear hB1
            go_simp
            rw [← eC.out]
            clear eC hM d0 d1 d2 d3 d4 d5 hy1
            refine hK.out _ _ ?_ (fun hHeld => ?_)
            · exact hl1
            clear hK K
            try simp only [Act.put, List.setIfInBounds_toArray, List.set_cons_zero, List.set_cons_succ]
            refine take_one (i := 7) rfl (by kernel_rfl) (fun K hK => ?_)
            obtain ⟨d0, d1, d2, d3, d4, d5⟩ := hB2.inE
            have hy2 := hB2.soft
            obtain ⟨zD, eD, hl2, hfi⟩ := hP.out OV ay' cy'
            replace hfi := hide_it hfi
            replace eD := hide_it eD
            clear hP hB2
            go_simp
            rw [← eD.out]
            clear eD d0 d1 d2 d3 d4 d5 hy2
            refine hK.out _ _ ?_ (fun hHeld => ?_)
            · exact hl2
            clear hK K
            try simp only [Act.put, List.setIfInBounds_toArray, List.set_cons_zero, List.set_cons_succ]
            refine wpAnyH_done (by kernel_rfl) ?_ _
            try go_wp2_with fail
            go_meet
            case rel => exact ⟨_, _, _, _, _, _, rfl, rfl, hfi⟩
        · obtain ⟨zB, eB, hM⟩ := hM.box2
          go_simp
          first | rw [← eB] | rw [show (W12.alloc (.cells #[.int .i64 0, .int .i64 0, .int .i64 0, .string ⟨#[]⟩, .slice none 0 0, .bool false] 24)).drew = zB from eB.symm]
          clear eB
          try change Mk _ _ _ _ _ _ none none none (some W12.heap.size) at hM
          refine hK.out _ _ ?_ (fun hHeld => ?_)
          · exact hM.bel
          clear hK K
          try simp only [Act.put, List.setIfInBounds_toArray, List.set_cons_zero, List.set_cons_succ]
          refine take_one (i := 3) rfl (by kernel_rfl) (fun K hK => ?_)
          · go_simp
            refine (hcall2.out _ hHeld).mono ?_
            rintro e z4 ⟨⟨ay', cy', rfl, ho⟩, hb⟩
            replace hM := hM.call2 hb ho
            clear hb ho
            go_wp2_with fail
            refine hK.out _ _ ?_ (fun hHeld => ?_)
            · exact hM.bel
            clear hK K
            try simp only [Act.put, List.setIfInBounds_toArray, List.set_cons_zero, List.set_cons_succ]
            refine take_one (i := 6) rfl (by kernel_rfl) (fun K hK => ?_)
            have hB1 := (hM.b1 _ rfl).1
            obtain ⟨d0, d1, d2, d3, d4, d5⟩ := hB1.inE
            have hy1 := hB1.soft
            obtain ⟨zC, eC, hB2, hl1, hP⟩ := hM.put OW ax' cx'
            replace hP := hide_it hP
            replace eC := hide_it eC
            clear hB1
            go_simp
            rw [← eC.out]
            clear eC hM d0 d1 d2 d3 d4 d5 hy1
            refine hK.out _ _ ?_ (fun hHeld => ?_)
            · exact hl1
            clear hK K
            try simp only [Act.put, List.setIfInBounds_toArray, List.set_cons_zero, List.set_cons_succ]
            refine take_one (i := 7) rfl (by kernel_rfl) (fun K hK => ?_)
            obtain ⟨d0, d1, d2, d3, d4, d5⟩ := hB2.inE
            have hy2 := hB2.soft
            obtain ⟨zD, eD, hl2, hfi⟩ := hP.out OV ay' cy'
            replace hfi := hide_it hfi
            replace eD := hide_it eD
            clear hP hB2
            go_simp
            rw [← eD.out]
            clear eD d0 d1 d2 d3 d4 d5 hy2
            refine hK.out _ _ ?_ (fun hHeld => ?_)
            · exact hl2
            clear hK K
            try simp only [Act.put, List.setIfInBounds_toArray, List.set_cons_zero, List.set_cons_succ]
            refine wpAnyH_done (by kernel_rfl) ?_ _
            try go_wp2_with fail
            go_meet
            case rel => exact ⟨_, _, _, _, _, _, rfl, rfl, hfi⟩
      · obtain ⟨zB, eB, hM⟩ := hM.box2
        go_simp
        first | rw [← eB] | rw [show (W12.alloc (.cells #[.int .i64 0, .int .i64 0, .int .i64 0, .string ⟨#[]⟩, .slice none 0 0, .bool false] 24)).drew = zB from eB.symm]
        clear eB
        try change Mk _ _ _ _ _ _ none none none (some W12.heap.size) at hM
        refine hK.out _ _ ?_ (fun hHeld => ?_)
        · exact hM.bel
        clear hK K
        try simp only [Act.put, List.setIfInBounds_toArray, List.set_cons_zero, List.set_cons_succ]
        refine take_one (i := 1) rfl (by kernel_rfl) (fun K hK => ?_)
        · go_simp
          refine (hcall1.out _ hHeld).mono ?_
          rintro e z3 ⟨⟨ax', cx', rfl, ho⟩, hb⟩
          replace hM := hM.call1 hb ho
          clear hb ho
          go_wp2_with fail
          refine hK.out _ _ ?_ (fun hHeld => ?_)
          · exact hM.bel
          clear hK K
          try simp only [Act.put, List.setIfInBounds_toArray, List.set_cons_zero, List.set_cons_succ]
          refine take_one (i := 3) rfl (by kernel_rfl) (fun K hK => ?_)
          · go_simp
            refine (hcall2.out _ hHeld).mono ?_
            rintro e z4 ⟨⟨ay', cy', rfl, ho⟩, hb⟩
            replace hM := hM.call2 hb ho
            clear hb ho
            go_wp2_with fail
            refine hK.out _ _ ?_ (fun hHeld => ?_)
            · exact hM.bel
            clear hK K
            try simp only [Act.put, List.setIfInBounds_toArray, List.set_cons_zero, List.set_cons_succ]
            refine take_one (i := 6) rfl (by kernel_rfl) (fun K hK => ?_)
            have hB1 := (hM.b1 _ rfl).1
            obtain ⟨d0, d1, d2, d3, d4, d5⟩ := hB1.inE
            have hy1 := hB1.soft
            obtain ⟨zC, eC, hB2, hl1, hP⟩ := hM.put OW ax' cx'
            replace hP := hide_it hP
            replace eC := hide_it eC
            clear hB1
            go_simp
            rw [← eC.out]
            clear eC hM d0 d1 d2 d3 d4 d5 hy1
            refine hK.out _ _ ?_ (fun hHeld => ?_)
            · exact hl1
            clear hK K
            try simp only [Act.put, List.setIfInBounds_toArray, List.set_cons_zero, List.set_cons_succ]
            refine take_one (i := 7) rfl (by kernel_rfl) (fun K hK => ?_)
            obtain ⟨d0, d1, d2, d3, d4, d5⟩ := hB2.inE
            have hy2 := hB2.soft
            obtain ⟨zD, eD, hl2, hfi⟩ := hP.out OV ay' cy'
            replace hfi := hide_it hfi
            replace eD := hide_it eD
            clear hP hB2
            go_simp
            rw [← eD.out]
            clear eD d0 d1 d2 d3 d4 d5 hy2
            refine hK.out _ _ ?_ (fun hHeld => ?_)
            · exact hl2
            clear hK K
            try simp only [Act.put, List.setIfInBounds_toArray, List.set_cons_zero, List.set_cons_succ]
            refine wpAnyH_done (by kernel_rfl) ?_ _
            try go_wp2_with fail
            go_meet
            case rel => exact ⟨_, _, _, _, _, _, rfl, rfl, hfi⟩
    · obtain ⟨zB, eB, hM⟩ := hM.box2
      go_simp
      first | rw [← eB] | rw [show (W12.alloc (.cells #[.int .i64 0, .int .i64 0, .int .i64 0, .string ⟨#[]⟩, .slice none 0 0, .bool false] 24)).drew = zB from eB.symm]
      clear eB
      try change Mk _ _ _ _ _ _ none none none (some W12.heap.size) at hM
      refine hK.out _ _ ?_ (fun hHeld => ?_)
      · exact hM.bel
      clear hK K
      try simp only [Act.put, List.setIfInBounds_toArray, List.set_cons_zero, List.set_cons_succ]
      refine take_two (i := 1) (j := 4) rfl rfl (by kernel_rfl) (fun K hK => ?_) (fun K hK => ?_)
      · go_simp
        refine (hcall1.out _ hHeld).mono ?_
        rintro e z3 ⟨⟨ax', cx', rfl, ho⟩, hb⟩
        replace hM := hM.call1 hb ho
        clear hb ho
        go_wp2_with fail
        refine hK.out _ _ ?_ (fun hHeld => ?_)
        · exact hM.bel
        clear hK K
        try simp only [Act.put, List.setIfInBounds_toArray, List.set_cons_zero, List.set_cons_succ]
        refine take_two (i := 3) (j := 4) rfl rfl (by kernel_rfl) (fun K hK => ?_) (fun K hK => ?_)
        · go_simp
          refine (hcall2.out _ hHeld).mono ?_
          rintro e z4 ⟨⟨ay', cy', rfl, ho⟩, hb⟩
          replace hM := hM.call2 hb ho
          clear hb ho
          go_wp2_with fail
          refine hK.out _ _ ?_ (fun hHeld => ?_)
          · exact hM.bel
          clear hK K
          try simp only [Act.put, List.setIfInBounds_toArray, List.set_cons_zero, List.set_cons_succ]
          refine take_one (i := 4) rfl (by kernel_rfl) (fun K hK => ?_)
          · obtain ⟨zA, eA, hM⟩ := hM.box1
            go_simp
            first | rw [← eA] | rw [show (W12.alloc (.cells #[.int .i64 0, .int .i64 0, .int .i64 0, .string ⟨#[]⟩, .slice none 0 0, .bool false] 24)).drew = zA from eA.symm]
            clear eA
            try change Mk _ _ _ _ _ _ none none (some W12.heap.size) none at hM
            refine hK.out _ _ ?_ (fun hHeld => ?_)
            · exact hM.bel
            clear hK K
            try simp only [Act.put, List.setIfInBounds_toArray, List.set_cons_zero, List.set_cons_succ]
            refine take_one (i := 6) rfl (by kernel_rfl) (fun K hK => ?_)
            have hB1 := (hM.b1 _ rfl).1
            obtain ⟨d0, d1, d2, d3, d4, d5⟩ := hB1.inE
            have hy1 := hB1.soft
            obtain ⟨zC, eC, hB2, hl1, hP⟩ := hM.put OW ax' cx'
            replace hP := hide_it hP
            replace eC := hide_it eC
            clear hB1
            go_simp
            rw [← eC.out]
            clear eC hM d0 d1 d2 d3 d4 d5 hy1
            refine hK.out _ _ ?_ (fun hHeld => ?_)
            · exact hl1
            clear hK K
            try simp only [Act.put, List.setIfInBounds_toArray, List.set_cons_zero, List.set_cons_succ]
            refine take_one (i := 7) rfl (by kernel_rfl) (fun K hK => ?_)
            obtain ⟨d0, d1, d2, d3, d4, d5⟩ := hB2.inE
            have hy2 := hB2.soft
            obtain ⟨zD, eD, hl2, hfi⟩ := hP.out OV ay' cy'
            replace hfi := hide_it hfi
            replace eD := hide_it eD
            clear hP hB2
            go_simp
            rw [← eD.out]
            clear eD d0 d1 d2 d3 d4 d5 hy2
            refine hK.out _ _ ?_ (fun hHeld => ?_)
            · exact hl2
            clear hK K
            try simp only [Act.put, List.setIfInBounds_toArray, List.set_cons_zero, List.set_cons_succ]
            refine wpAnyH_done (by kernel_rfl) ?_ _
            try go_wp2_with fail
            go_meet
            case rel => exact ⟨_, _, _, _, _, _, rfl, rfl, hfi⟩
        · obtain ⟨zA, eA, hM⟩ := hM.box1
          go_simp
          first | rw [← eA] | rw [show (W12.alloc (.cells #[.int .i64 0, .int .i64 0, .int .i64 0, .string ⟨#[]⟩, .slice none 0 0, .bool false] 24)).drew = zA from eA.symm]
          clear eA
          try change Mk _ _ _ _ _ _ none none (some W12.heap.size) none at hM
          refine hK.out _ _ ?_ (fun hHeld => ?_)
          · exact hM.bel
          clear hK K
          try simp only [Act.put, List.setIfInBounds_toArray, List.set_cons_zero, List.set_cons_succ]
          refine take_one (i := 3) rfl (by kernel_rfl) (fun K hK => ?_)
          · go_simp
            refine (hcall2.out _ hHeld).mono ?_
            rintro e z4 ⟨⟨ay', cy', rfl, ho⟩, hb⟩
            replace hM := hM.call2 hb ho
            clear hb ho
            go_wp2_with fail
            refine hK.out _ _ ?_ (fun hHeld => ?_)
            · exact hM.bel
            clear hK K
            try simp only [Act.put, List.setIfInBounds_toArray, List.set_cons_zero, List.set_cons_succ]
            refine take_one (i := 6) rfl (by kernel_rfl) (fun K hK => ?_)
            have hB1 := (hM.b1 _ rfl).1
            obtain ⟨d0, d1, d2, d3, d4, d5⟩ := hB1.inE
            have hy1 := hB1.soft
            obtain ⟨zC, eC, hB2, hl1, hP⟩ := hM.put OW ax' cx'
            replace hP := hide_it hP
            replace eC := hide_it eC
            clear hB1
            go_simp
            rw [← eC.out]
            clear eC hM d0 d1 d2 d3 d4 d5 hy1
            refine hK.out _ _ ?_ (fun hHeld => ?_)
            · exact hl1
            clear hK K
            try simp only [Act.put, List.setIfInBounds_toArray, List.set_cons_zero, List.set_cons_succ]
            refine take_one (i := 7) rfl (by kernel_rfl) (fun K hK => ?_)
            obtain ⟨d0, d1, d2, d3, d4, d5⟩ := hB2.inE
            have hy2 := hB2.soft
            obtain ⟨zD, eD, hl2, hfi⟩ := hP.out OV ay' cy'
            replace hfi := hide_it hfi
            replace eD := hide_it eD
            clear hP hB2
            go_simp
            rw [← eD.out]
            clear eD d0 d1 d2 d3 d4 d5 hy2
            refine hK.out _ _ ?_ (fun hHeld => ?_)
            · exact hl2
            clear hK K
            try simp only [Act.put, List.setIfInBounds_toArray, List.set_cons_zero, List.set_cons_succ]
            refine wpAnyH_done (by kernel_rfl) ?_ _
            try go_wp2_with fail
            go_meet
            case rel => exact ⟨_, _, _, _, _, _, rfl, rfl, hfi⟩
      · obtain ⟨zA, eA, hM⟩ := hM.box1
        go_simp
        first | rw [← eA] | rw [show (W12.alloc (.cells #[.int .i64 0, .int .i64 0, .int .i64 0, .string ⟨#[]⟩, .slice none 0 0, .bool false] 24)).drew = zA from eA.symm]
        clear eA
        try change Mk _ _ _ _ _ _ none none (some W12.heap.size) none at hM
        refine hK.out _ _ ?_ (fun hHeld => ?_)
        · exact hM.bel
        clear hK K
        try simp only [Act.put, List.setIfInBounds_toArray, List.set_cons_zero, List.set_cons_succ]
        refine take_one (i := 1) rfl (by kernel_rfl) (fun K hK => ?_)
        · go_simp
          refine (hcall1.out _ hHeld).mono ?_
          rintro e z3 ⟨⟨ax', cx', rfl, ho⟩, hb⟩
          replace hM := hM.call1 hb ho
          clear hb ho
          go_wp2_with fail
          refine hK.out _ _ ?_ (fun hHeld => ?_)
          · exact hM.bel
          clear hK K
          try simp only [Act.put, List.setIfInBounds_toArray, List.set_cons_zero, List.set_cons_succ]
          refine take_one (i := 3) rfl (by kernel_rfl) (fun K hK => ?_)
          · go_simp
            refine (hcall2.out _ hHeld).mono ?_
            rintro e z4 ⟨⟨ay', cy', rfl, ho⟩, hb⟩
            replace hM := hM.call2 hb ho
            clear hb ho
            go_wp2_with fail
            refine hK.out _ _ ?_ (fun hHeld => ?_)
            · exact hM.bel
            clear hK K
            try simp only [Act.put, List.setIfInBounds_toArray, List.set_cons_zero, List.set_cons_succ]
            refine take_one (i := 6) rfl (by kernel_rfl) (fun K hK => ?_)
            have hB1 := (hM.b1 _ rfl).1
            obtain ⟨d0, d1, d2, d3, d4, d5⟩ := hB1.inE
            have hy1 := hB1.soft
            obtain ⟨zC, eC, hB2, hl1, hP⟩ := hM.put OW ax' cx'
            replace hP := hide_it hP
            replace eC := hide_it eC
            clear hB1
            go_simp
            rw [← eC.out]
            clear eC hM d0 d1 d2 d3 d4 d5 hy1
            refine hK.out _ _ ?_ (fun hHeld => ?_)
            · exact hl1
            clear hK K
            try simp only [Act.put, List.setIfInBounds_toArray, List.set_cons_zero, List.set_cons_succ]
            refine take_one (i := 7) rfl (by kernel_rfl) (fun K hK => ?_)
            obtain ⟨d0, d1, d2, d3, d4, d5⟩ := hB2.inE
            have hy2 := hB2.soft
            obtain ⟨zD, eD, hl2, hfi⟩ := hP.out OV ay' cy'
            replace hfi := hide_it hfi
            replace eD := hide_it eD
            clear hP hB2
            go_simp
            rw [← eD.out]
            clear eD d0 d1 d2 d3 d4 d5 hy2
            refine hK.out _ _ ?_ (fun hHeld => ?_)
            · exact hl2
            clear hK K
            try simp only [Act.put, List.setIfInBounds_toArray, List.set_cons_zero, List.set_cons_succ]
            refine wpAnyH_done (by kernel_rfl) ?_ _
            try go_wp2_with fail
            go_meet
            case rel => exact ⟨_, _, _, _, _, _, rfl, rfl, hfi⟩
  case rest =>
  obtain ⟨X', Y', ax', cx', ay', cy', rfl, rfl, hK13⟩ := hcut
  clear hcall1 hcall2 hM hro hK12 g0 g1 g2 g3 hlt9
  obtain ⟨W13, rfl⟩ : ∃ x, x = wc := ⟨_, rfl⟩
  obtain ⟨c0, c1, c2, c3, c4, c5⟩ := (hK13.out.ens 0 _ rfl).1.inE
  simp only at c0 c1 c2 c3 c4 c5
  have hx := rversion_any ⟨kind, stamp, count, key, val, dead⟩ a c W13 (hrow.below hK13.out.bel) (by simp only; omega) hnil
  unfold VnTo at hx
  rw [← hVV.out, ← hvb.out] at hx
  go_wp2_with fail
  refine hx.mono ?_
  rintro e W14 ⟨⟨az', cz', rfl, ho⟩, hb⟩
  have hK14 := hide_it ((hK13.out.push hb ho).newV VV az' cz')
  clear hx hb ho hK13 c0 c1 c2 c3 c4 c5
  obtain ⟨W15, hW15⟩ : ∃ W, W = boxV W14 VV az' cz' := ⟨_, rfl⟩
  rw [← hW15] at hK14
  obtain ⟨E20, hE20⟩ : ∃ E, E = W14.heap.size := ⟨_, rfl⟩
  go_wp2_with fail
  have hWb : W15 = W14.alloc (.cells #[.string VV.key, .int .i64 VV.stamp, .slice az' VV.val.length cz', .bool VV.dead] 30) := hW15
  rw [← hWb, ← hE20]
  rw [← hE20] at hK14
  clear hWb hW15 hE20
  obtain ⟨M, hM⟩ : ∃ M, M = val.length + 70 := ⟨_, rfl⟩
  have hMl : M ≤ 140737488351302 := by omega
  obtain ⟨LM, hLM⟩ : ∃ L, L = val ++ marks 70 := ⟨_, rfl⟩
  have hLl : LM.length = M := by rw [hLM, List.length_append, marks_len, hM]
  rw [← hM, ← hLM] at hK14
  rw [← hM]
  have hM' := hide_it hM
  clear hM hLM
  obtain ⟨G, rfl⟩ : ∃ G, ad = ⟨G, 0, none⟩ := by
    obtain ⟨g', cur, e', _⟩ := (hK14.out.apt.own 1 _ rfl).at (by simp only; rw [hLl, hM'.out]; omega)
    exact ⟨g', Option.some.inj e'⟩
  have hO1 := hide_it (hK14.out.apt.own 1 _ rfl)
  simp only at hO1
  replace hLl := hide_it hLl
  replace hrow := hide_it hrow
  have hwf : Hid (∀ (w' : World) (k : Nat), OwnB w' w.heap.size (.slice (some ⟨G, 0, none⟩) M cf) (List.replicate k y ++ LM.drop k) → k < M → w'.cell? ⟨G, k, none⟩ = some (.int .u8 ((at0 (List.replicate k y ++ LM.drop k) k : Nat) : Int)) ∧ w'.frozen? ⟨G, k, none⟩ = false ∧ OwnB (w'.setCell ⟨G, k, none⟩ (.int .u8 (y : Int))) w.heap.size (.slice (some ⟨G, 0, none⟩) M cf) (List.replicate (k + 1) y ++ LM.drop (k + 1))) := fun w' k h hk => by
    have hfl : (List.replicate k y ++ LM.drop k).length = M := by rw [fill_len (by rw [hLl.out]; omega), hLl.out]
    obtain ⟨g', cur, e', hnn, _, hhc, hcc⟩ := h.at (by rw [hfl]; omega)
    have e2 : G = g' := congrArg Addr.block (Option.some.inj e')
    subst e2
    refine ⟨?_, frozen_of_row w' G k _ _ hhc, ?_⟩
    · rw [cell_of_row _ _ _ _ _ _ hhc]; exact hcc k (by rw [hfl]; exact hk)
    · have hset := h.set (i := k) (by rw [hfl]; exact hk) y
      rw [fill_step (by rw [hLl.out]; exact hk)] at hset
      exact hset
  go_loopw [22] (fun i wr => ∃ k : Nat, k ≤ M ∧ i = .int .i64 (k : Int) ∧ Hid (OwnB wr w.heap.size (.slice (some ⟨G, 0, none⟩) M cf) (List.replicate k y ++ LM.drop k)) ∧ Hid (W15.grownBy wr (some G))) (fun i _ => M - (intOf i).toNat)
  case atStart => exact ⟨0, by omega, rfl, (by show OwnB _ _ _ _; simpa using hO1.out), World.grownBy.refl _ _⟩
  case round =>
  obtain ⟨k, hk, rfl, hO, hG⟩ := hrel
  by_cases hlt : k < M
  · have hki : (k : Int) < (M : Int) := by omega
    obtain ⟨hcell, hfz, hset⟩ := hwf.out _ _ hO.out hlt
    have HS := hide_it hset
    have HGR := hide_it (grown_setCell (g := G) hG.out k (.int .u8 (y : Int)))
    clear hO hG hset hO1 hwf hK14
    generalize at0 (List.replicate k y ++ LM.drop k) k = q at *
    go_wp2
    go_roundw
    case rel => exact ⟨k + 1, by omega, by go_num, HS.out, HGR.out⟩
    case measure => simp [intOf]; omega
  have hkn : ¬ (k : Int) < (M : Int) := by omega
  have hK15 := hide_it (hK14.out.gone (k := 1) rfl hG.out)
  clear hO hG hO1 hwf hK14
  go_wp2_with fail
  obtain ⟨W16, rfl⟩ : ∃ x, x = wr := ⟨_, rfl⟩
  have hFl : F.length ≤ 4393 := by
    rw [hF.out]
    split
    · next h => exact encE_len h
    · simp
  have hOWl : OW.val.length ≤ 140737488351232 := by
    rw [hOW.out]
    unfold ofWriteE
    split <;> simp <;> omega
  have hOVl : OV.val.length ≤ 140737488351232 := by
    rw [hOV.out]
    unfold ofVersionE
    simp only
    omega
  obtain ⟨y1, hy1⟩ : ∃ z : Nat, ((y : Int) + 1) % 256 = (z : Int) := ⟨(y + 1) % 256, by omega⟩
  obtain ⟨y2, hy2⟩ : ∃ z : Nat, ((y : Int) + 2) % 256 = (z : Int) := ⟨(y + 2) % 256, by omega⟩
  obtain ⟨y3, hy3⟩ : ∃ z : Nat, ((y : Int) + 3) % 256 = (z : Int) := ⟨(y + 3) % 256, by omega⟩
  obtain ⟨y4, hy4⟩ : ∃ z : Nat, ((y : Int) + 4) % 256 = (z : Int) := ⟨(y + 4) % 256, by omega⟩
  have hx := spoil_any a10 c10 F y1 w.heap.size W16 (hK15.out.apt.own 2 _ rfl) hK15.out.bel.size (by omega)
  rw [hy1]
  replace hy2 := hide_it hy2
  replace hy3 := hide_it hy3
  replace hy4 := hide_it hy4
  refine hx.mono ?_
  rintro e W17 ⟨rfl, hg⟩
  have hK17 := hide_it (hK15.out.gone (k := 2) rfl hg)
  clear hx hg hK15 hy1 hkn hk
  have kb := conv_row (own_row (hK17.out.apt.own 3 _ rfl)).1 (own_row (hK17.out.apt.own 3 _ rfl)).2
  have kw := conv_row (own_row (hK17.out.apt.own 0 _ rfl)).1 (own_row (hK17.out.apt.own 0 _ rfl)).2
  simp only at kb kw
  obtain ⟨sF, hsF⟩ : ∃ s, s = strOf F := ⟨_, rfl⟩
  rw [← hsF] at kb kw
  clear hsF
  obtain ⟨x0, x1, x2, x3, x4, x5⟩ := (hK17.out.ens 2 _ rfl).1.inE
  obtain ⟨z0, z1, z2, z3, z4, z5⟩ := (hK17.out.ens 4 _ rfl).1.inE
  simp only at x0 x1 x2 x3 x4 x5 z0 z1 z2 z3 z4 z5
  have hx := same_eq OW ax ax' cx cx' W17 (own_row (hK17.out.apt.own 4 _ rfl)).1 (own_row (hK17.out.apt.own 7 _ rfl)).1 (own_row (hK17.out.apt.own 4 _ rfl)).2 (own_row (hK17.out.apt.own 7 _ rfl)).2
  go_wp2_with fail
  refine hx.mono ?_
  rintro e W18 ⟨rfl, hb⟩
  have hK18 := hide_it (hK17.out.below hb)
  clear hx hb hK17 kb kw x0 x1 x2 x3 x4 x5 z0 z1 z2 z3 z4 z5
  obtain ⟨x0, x1, x2, x3, x4, x5⟩ := (hK18.out.ens 3 _ rfl).1.inE
  obtain ⟨z0, z1, z2, z3, z4, z5⟩ := (hK18.out.ens 5 _ rfl).1.inE
  simp only at x0 x1 x2 x3 x4 x5 z0 z1 z2 z3 z4 z5
  have hx := same_eq OV ay ay' cy cy' W18 (own_row (hK18.out.apt.own 5 _ rfl)).1 (own_row (hK18.out.apt.own 8 _ rfl)).1 (own_row (hK18.out.apt.own 5 _ rfl)).2 (own_row (hK18.out.apt.own 8 _ rfl)).2
  go_wp2_with fail
  refine hx.mono ?_
  rintro e W19 ⟨rfl, hb⟩
  have hK19 := hide_it (hK18.out.below hb)
  clear hx hb hK18 x0 x1 x2 x3 x4 x5 z0 z1 z2 z3 z4 z5
  obtain ⟨x0, x1, x2, x3⟩ := (hK19.out.vns 1 _ rfl).cells
  obtain ⟨z0, z1, z2, z3⟩ := (hK19.out.vns 2 _ rfl).cells
  simp only at x0 x1 x2 x3 z0 z1 z2 z3
  have hx := sameV_eq VV az az' cz cz' W19 (own_row (hK19.out.apt.own 6 _ rfl)).1 (own_row (hK19.out.apt.own 9 _ rfl)).1 (own_row (hK19.out.apt.own 6 _ rfl)).2 (own_row (hK19.out.apt.own 9 _ rfl)).2
  go_wp2_with fail
  refine hx.mono ?_
  rintro e W20 ⟨rfl, hb⟩
  have hK20 := hide_it (hK19.out.below hb)
  clear hx hb hK19 x0 x1 x2 x3 z0 z1 z2 z3
  have x4 := (hK20.out.ens 2 _ rfl).1.inE.c4
  simp only at x4
  have hx := spoil_any ax cx OW.val y2 w.heap.size W20 (hK20.out.apt.own 4 _ rfl) hK20.out.bel.size (by omega)
  go_wp2_with fail
  rw [hy2.out]
  refine hx.mono ?_
  rintro e W21 ⟨rfl, hg⟩
  have hK21 := hide_it (hK20.out.gone (k := 4) rfl hg)
  clear hx hg hK20 x4 hy2
  have x4 := (hK21.out.ens 3 _ rfl).1.inE.c4
  simp only at x4
  have hx := spoil_any ay cy OV.val y3 w.heap.size W21 (hK21.out.apt.own 5 _ rfl) hK21.out.bel.size (by omega)
  go_wp2_with fail
  rw [hy3.out]
  refine hx.mono ?_
  rintro e W22 ⟨rfl, hg⟩
  have hK22 := hide_it (hK21.out.gone (k := 5) rfl hg)
  clear hx hg hK21 x4 hy3
  obtain ⟨x0, x1, x2, x3⟩ := (hK22.out.vns 1 _ rfl).cells
  obtain ⟨z0, z1, z2, z3⟩ := (hK22.out.vns 2 _ rfl).cells
  obtain ⟨c0, c1, c2, c3, c4, c5⟩ := (hK22.out.ens 0 _ rfl).1.inE
  obtain ⟨d0, d1, d2, d3, d4, d5⟩ := (hK22.out.ens 5 _ rfl).1.inE
  have l1 := (hK22.out.vns 1 _ rfl).lt
  have l2 := (hK22.out.vns 2 _ rfl).lt
  have l3 := (hK22.out.ens 0 _ rfl).1.lt
  have l4 := (hK22.out.ens 5 _ rfl).1.lt
  simp only at x0 x1 x2 x3 z0 z1 z2 z3 c0 c1 c2 c3 c4 c5 d0 d1 d2 d3 d4 d5 l1 l2 l3 l4
  have hq1 : Hid (∀ W, Below W22.heap.size W22 W → Calls Try.prog 18 #[valV VV az cz, valV VV az' cz'] W fun e w' => e = .returned (.bool true) ∧ Below W.heap.size W w') := fun W h => by
    have hk := hK22.out.below h
    exact sameV_eq VV az az' cz cz' W (own_row (hk.apt.own 6 _ rfl)).1 (own_row (hk.apt.own 9 _ rfl)).1 (own_row (hk.apt.own 6 _ rfl)).2 (own_row (hk.apt.own 9 _ rfl)).2
  have hq2 : Hid (∀ W, Below W22.heap.size W22 W → Calls Try.prog 9 #[valV ⟨key, stamp, val, dead⟩ a c] W fun e w' => EnTo W OV e w') := fun W h => by
    rw [hOV.out]
    exact ofVersion_any ⟨key, stamp, val, dead⟩ a c W (hrow.out.below (hK22.out.below h).bel) (by simp only; omega) hnil
  have hq3 : Hid (∀ W an cn, Below W22.heap.size W22 W → OwnB W w.heap.size (.slice an OV.val.length cn) OV.val → Calls Try.prog 17 #[valE OV an cn, valE OV ay' cy'] W fun e w' => e = .returned (.bool true) ∧ Below W.heap.size W w') := fun W an cn h ho => by
    have hk := hK22.out.below h
    exact same_eq OV an ay' cn cy' W (own_row ho).1 (own_row (hk.apt.own 8 _ rfl)).1 (own_row ho).2 (own_row (hk.apt.own 8 _ rfl)).2
  have hws : Hid (w.heap.size ≤ W22.heap.size) := hide_it hK22.out.bel.size
  go_wp2_with fail
  refine wp_region_held_drew (S := (fun w' => Below W22.heap.size W22 w')) (by kernel_rfl) ?_ (fun hHeld => ?_)
  · exact (Below.refl _ _).drew
  refine take_on (i := 0) (v := ?_) rfl rfl (by kernel_rfl) (by kernel_rfl) (by kernel_rfl) (fun _ _ _ h => h) rfl ?_ hHeld ?_
  rotate_left
  · (intro wq hSq; have p0 := (hSq.cell (p := ⟨E16, 0, none⟩) l1).trans x0; have p1 := (hSq.cell (p := ⟨E16, 1, none⟩) l1).trans x1; have p2 := (hSq.cell (p := ⟨E16, 2, none⟩) l1).trans x2; have p3 := (hSq.cell (p := ⟨E16, 3, none⟩) l1).trans x3; have q0 := (hSq.cell (p := ⟨E20, 0, none⟩) l2).trans z0; have q1 := (hSq.cell (p := ⟨E20, 1, none⟩) l2).trans z1; have q2 := (hSq.cell (p := ⟨E20, 2, none⟩) l2).trans z2; have q3 := (hSq.cell (p := ⟨E20, 3, none⟩) l2).trans z3; have r1' := (hSq.cell (p := ⟨w.heap.size, 1, none⟩) l3).trans c1; have r3' := (hSq.cell (p := ⟨w.heap.size, 3, none⟩) l3).trans c3; have r4' := (hSq.cell (p := ⟨w.heap.size, 4, none⟩) l3).trans c4; have r5' := (hSq.cell (p := ⟨w.heap.size, 5, none⟩) l3).trans c5; have s0 := (hSq.cell (p := ⟨Y', 0, none⟩) l4).trans d0; have s1 := (hSq.cell (p := ⟨Y', 1, none⟩) l4).trans d1; have s2 := (hSq.cell (p := ⟨Y', 2, none⟩) l4).trans d2; have s3 := (hSq.cell (p := ⟨Y', 3, none⟩) l4).trans d3; have s4 := (hSq.cell (p := ⟨Y', 4, none⟩) l4).trans d4; have s5 := (hSq.cell (p := ⟨Y', 5, none⟩) l4).trans d5; go_simp <;> first | with_reducible rfl | rfl)
  simp only [Act.put, List.setIfInBounds_toArray, List.set_cons_zero, List.set_cons_succ]
  refine take_on (i := 1) (v := ?_) rfl rfl (by kernel_rfl) (by kernel_rfl) (by kernel_rfl) (fun _ _ _ h => h) rfl ?_ hHeld ?_
  rotate_left
  · (intro wq hSq; have p0 := (hSq.cell (p := ⟨E16, 0, none⟩) l1).trans x0; have p1 := (hSq.cell (p := ⟨E16, 1, none⟩) l1).trans x1; have p2 := (hSq.cell (p := ⟨E16, 2, none⟩) l1).trans x2; have p3 := (hSq.cell (p := ⟨E16, 3, none⟩) l1).trans x3; have q0 := (hSq.cell (p := ⟨E20, 0, none⟩) l2).trans z0; have q1 := (hSq.cell (p := ⟨E20, 1, none⟩) l2).trans z1; have q2 := (hSq.cell (p := ⟨E20, 2, none⟩) l2).trans z2; have q3 := (hSq.cell (p := ⟨E20, 3, none⟩) l2).trans z3; have r1' := (hSq.cell (p := ⟨w.heap.size, 1, none⟩) l3).trans c1; have r3' := (hSq.cell (p := ⟨w.heap.size, 3, none⟩) l3).trans c3; have r4' := (hSq.cell (p := ⟨w.heap.size, 4, none⟩) l3).trans c4; have r5' := (hSq.cell (p := ⟨w.heap.size, 5, none⟩) l3).trans c5; have s0 := (hSq.cell (p := ⟨Y', 0, none⟩) l4).trans d0; have s1 := (hSq.cell (p := ⟨Y', 1, none⟩) l4).trans d1; have s2 := (hSq.cell (p := ⟨Y', 2, none⟩) l4).trans d2; have s3 := (hSq.cell (p := ⟨Y', 3, none⟩) l4).trans d3; have s4 := (hSq.cell (p := ⟨Y', 4, none⟩) l4).trans d4; have s5 := (hSq.cell (p := ⟨Y', 5, none⟩) l4).trans d5; go_simp <;> first | with_reducible rfl | rfl)
  simp only [Act.put, List.setIfInBounds_toArray, List.set_cons_zero, List.set_cons_succ]
  refine take_one (i := 2) rfl (by kernel_rfl) (fun K hK => ?_)
  go_simp
  refine (hq1.out _ hHeld).mono ?_; rintro e r1 ⟨rfl, hb1⟩; have hB1 := hide_it (hHeld.trans (hb1.mono hHeld.size)); clear hb1
  try go_wp2_with fail
  refine hK.out _ _ ?_ (fun hHeld => ?_)
  · exact hB1.out
  clear hK K
  try simp only [Act.put, List.setIfInBounds_toArray, List.set_cons_zero, List.set_cons_succ]
  refine take_on (i := 3) (v := ?_) rfl rfl (by kernel_rfl) (by kernel_rfl) (by kernel_rfl) (fun _ _ _ h => h) rfl ?_ hHeld ?_
  rotate_left
  · (intro wq hSq; have p0 := (hSq.cell (p := ⟨E16, 0, none⟩) l1).trans x0; have p1 := (hSq.cell (p := ⟨E16, 1, none⟩) l1).trans x1; have p2 := (hSq.cell (p := ⟨E16, 2, none⟩) l1).trans x2; have p3 := (hSq.cell (p := ⟨E16, 3, none⟩) l1).trans x3; have q0 := (hSq.cell (p := ⟨E20, 0, none⟩) l2).trans z0; have q1 := (hSq.cell (p := ⟨E20, 1, none⟩) l2).trans z1; have q2 := (hSq.cell (p := ⟨E20, 2, none⟩) l2).trans z2; have q3 := (hSq.cell (p := ⟨E20, 3, none⟩) l2).trans z3; have r1' := (hSq.cell (p := ⟨w.heap.size, 1, none⟩) l3).trans c1; have r3' := (hSq.cell (p := ⟨w.heap.size, 3, none⟩) l3).trans c3; have r4' := (hSq.cell (p := ⟨w.heap.size, 4, none⟩) l3).trans c4; have r5' := (hSq.cell (p := ⟨w.heap.size, 5, none⟩) l3).trans c5; have s0 := (hSq.cell (p := ⟨Y', 0, none⟩) l4).trans d0; have s1 := (hSq.cell (p := ⟨Y', 1, none⟩) l4).trans d1; have s2 := (hSq.cell (p := ⟨Y', 2, none⟩) l4).trans d2; have s3 := (hSq.cell (p := ⟨Y', 3, none⟩) l4).trans d3; have s4 := (hSq.cell (p := ⟨Y', 4, none⟩) l4).trans d4; have s5 := (hSq.cell (p := ⟨Y', 5, none⟩) l4).trans d5; go_simp <;> first | with_reducible rfl | rfl)
  simp only [Act.put, List.setIfInBounds_toArray, List.set_cons_zero, List.set_cons_succ]
  refine take_on (i := 4) (v := ?_) rfl rfl (by kernel_rfl) (by kernel_rfl) (by kernel_rfl) (fun _ _ _ h => h) rfl ?_ hHeld ?_
  rotate_left
  · (intro wq hSq; have p0 := (hSq.cell (p := ⟨E16, 0, none⟩) l1).trans x0; have p1 := (hSq.cell (p := ⟨E16, 1, none⟩) l1).trans x1; have p2 := (hSq.cell (p := ⟨E16, 2, none⟩) l1).trans x2; have p3 := (hSq.cell (p := ⟨E16, 3, none⟩) l1).trans x3; have q0 := (hSq.cell (p := ⟨E20, 0, none⟩) l2).trans z0; have q1 := (hSq.cell (p := ⟨E20, 1, none⟩) l2).trans z1; have q2 := (hSq.cell (p := ⟨E20, 2, none⟩) l2).trans z2; have q3 := (hSq.cell (p := ⟨E20, 3, none⟩) l2).trans z3; have r1' := (hSq.cell (p := ⟨w.heap.size, 1, none⟩) l3).trans c1; have r3' := (hSq.cell (p := ⟨w.heap.size, 3, none⟩) l3).trans c3; have r4' := (hSq.cell (p := ⟨w.heap.size, 4, none⟩) l3).trans c4; have r5' := (hSq.cell (p := ⟨w.heap.size, 5, none⟩) l3).trans c5; have s0 := (hSq.cell (p := ⟨Y', 0, none⟩) l4).trans d0; have s1 := (hSq.cell (p := ⟨Y', 1, none⟩) l4).trans d1; have s2 := (hSq.cell (p := ⟨Y', 2, none⟩) l4).trans d2; have s3 := (hSq.cell (p := ⟨Y', 3, none⟩) l4).trans d3; have s4 := (hSq.cell (p := ⟨Y', 4, none⟩) l4).trans d4; have s5 := (hSq.cell (p := ⟨Y', 5, none⟩) l4).trans d5; go_simp <;> first | with_reducible rfl | rfl)
  simp only [Act.put, List.setIfInBounds_toArray, List.set_cons_zero, List.set_cons_succ]
  refine take_on (i := 5) (v := ?_) rfl rfl (by kernel_rfl) (by kernel_rfl) (by kernel_rfl) (fun _ _ _ h => h) rfl ?_ hHeld ?_
  rotate_left
  · (intro wq hSq; have p0 := (hSq.cell (p := ⟨E16, 0, none⟩) l1).trans x0; have p1 := (hSq.cell (p := ⟨E16, 1, none⟩) l1).trans x1; have p2 := (hSq.cell (p := ⟨E16, 2, none⟩) l1).trans x2; have p3 := (hSq.cell (p := ⟨E16, 3, none⟩) l1).trans x3; have q0 := (hSq.cell (p := ⟨E20, 0, none⟩) l2).trans z0; have q1 := (hSq.cell (p := ⟨E20, 1, none⟩) l2).trans z1; have q2 := (hSq.cell (p := ⟨E20, 2, none⟩) l2).trans z2; have q3 := (hSq.cell (p := ⟨E20, 3, none⟩) l2).trans z3; have r1' := (hSq.cell (p := ⟨w.heap.size, 1, none⟩) l3).trans c1; have r3' := (hSq.cell (p := ⟨w.heap.size, 3, none⟩) l3).trans c3; have r4' := (hSq.cell (p := ⟨w.heap.size, 4, none⟩) l3).trans c4; have r5' := (hSq.cell (p := ⟨w.heap.size, 5, none⟩) l3).trans c5; have s0 := (hSq.cell (p := ⟨Y', 0, none⟩) l4).trans d0; have s1 := (hSq.cell (p := ⟨Y', 1, none⟩) l4).trans d1; have s2 := (hSq.cell (p := ⟨Y', 2, none⟩) l4).trans d2; have s3 := (hSq.cell (p := ⟨Y', 3, none⟩) l4).trans d3; have s4 := (hSq.cell (p := ⟨Y', 4, none⟩) l4).trans d4; have s5 := (hSq.cell (p := ⟨Y', 5, none⟩) l4).trans d5; go_simp <;> first | with_reducible rfl | rfl)
  simp only [Act.put, List.setIfInBounds_toArray, List.set_cons_zero, List.set_cons_succ]
  refine take_on (i := 6) (v := ?_) rfl rfl (by kernel_rfl) (by kernel_rfl) (by kernel_rfl) (fun _ _ _ h => h) rfl ?_ hHeld ?_
  rotate_left
  · (intro wq hSq; have p0 := (hSq.cell (p := ⟨E16, 0, none⟩) l1).trans x0; have p1 := (hSq.cell (p := ⟨E16, 1, none⟩) l1).trans x1; have p2 := (hSq.cell (p := ⟨E16, 2, none⟩) l1).trans x2; have p3 := (hSq.cell (p := ⟨E16, 3, none⟩) l1).trans x3; have q0 := (hSq.cell (p := ⟨E20, 0, none⟩) l2).trans z0; have q1 := (hSq.cell (p := ⟨E20, 1, none⟩) l2).trans z1; have q2 := (hSq.cell (p := ⟨E20, 2, none⟩) l2).trans z2; have q3 := (hSq.cell (p := ⟨E20, 3, none⟩) l2).trans z3; have r1' := (hSq.cell (p := ⟨w.heap.size, 1, none⟩) l3).trans c1; have r3' := (hSq.cell (p := ⟨w.heap.size, 3, none⟩) l3).trans c3; have r4' := (hSq.cell (p := ⟨w.heap.size, 4, none⟩) l3).trans c4; have r5' := (hSq.cell (p := ⟨w.heap.size, 5, none⟩) l3).trans c5; have s0 := (hSq.cell (p := ⟨Y', 0, none⟩) l4).trans d0; have s1 := (hSq.cell (p := ⟨Y', 1, none⟩) l4).trans d1; have s2 := (hSq.cell (p := ⟨Y', 2, none⟩) l4).trans d2; have s3 := (hSq.cell (p := ⟨Y', 3, none⟩) l4).trans d3; have s4 := (hSq.cell (p := ⟨Y', 4, none⟩) l4).trans d4; have s5 := (hSq.cell (p := ⟨Y', 5, none⟩) l4).trans d5; go_simp <;> first | with_reducible rfl | rfl)
  simp only [Act.put, List.setIfInBounds_toArray, List.set_cons_zero, List.set_cons_succ]
  refine take_on (i := 7) (v := ?_) rfl rfl (by kernel_rfl) (by kernel_rfl) (by kernel_rfl) (fun _ _ _ h => h) rfl ?_ hHeld ?_
  rotate_left
  · (intro wq hSq; have p0 := (hSq.cell (p := ⟨E16, 0, none⟩) l1).trans x0; have p1 := (hSq.cell (p := ⟨E16, 1, none⟩) l1).trans x1; have p2 := (hSq.cell (p := ⟨E16, 2, none⟩) l1).trans x2; have p3 := (hSq.cell (p := ⟨E16, 3, none⟩) l1).trans x3; have q0 := (hSq.cell (p := ⟨E20, 0, none⟩) l2).trans z0; have q1 := (hSq.cell (p := ⟨E20, 1, none⟩) l2).trans z1; have q2 := (hSq.cell (p := ⟨E20, 2, none⟩) l2).trans z2; have q3 := (hSq.cell (p := ⟨E20, 3, none⟩) l2).trans z3; have r1' := (hSq.cell (p := ⟨w.heap.size, 1, none⟩) l3).trans c1; have r3' := (hSq.cell (p := ⟨w.heap.size, 3, none⟩) l3).trans c3; have r4' := (hSq.cell (p := ⟨w.heap.size, 4, none⟩) l3).trans c4; have r5' := (hSq.cell (p := ⟨w.heap.size, 5, none⟩) l3).trans c5; have s0 := (hSq.cell (p := ⟨Y', 0, none⟩) l4).trans d0; have s1 := (hSq.cell (p := ⟨Y', 1, none⟩) l4).trans d1; have s2 := (hSq.cell (p := ⟨Y', 2, none⟩) l4).trans d2; have s3 := (hSq.cell (p := ⟨Y', 3, none⟩) l4).trans d3; have s4 := (hSq.cell (p := ⟨Y', 4, none⟩) l4).trans d4; have s5 := (hSq.cell (p := ⟨Y', 5, none⟩) l4).trans d5; go_simp <;> first | with_reducible rfl | rfl)
  simp only [Act.put, List.setIfInBounds_toArray, List.set_cons_zero, List.set_cons_succ]
  refine take_on (i := 8) (v := ?_) rfl rfl (by kernel_rfl) (by kernel_rfl) (by kernel_rfl) (fun _ _ _ h => h) rfl ?_ hHeld ?_
  rotate_left
  · (intro wq hSq; have p0 := (hSq.cell (p := ⟨E16, 0, none⟩) l1).trans x0; have p1 := (hSq.cell (p := ⟨E16, 1, none⟩) l1).trans x1; have p2 := (hSq.cell (p := ⟨E16, 2, none⟩) l1).trans x2; have p3 := (hSq.cell (p := ⟨E16, 3, none⟩) l1).trans x3; have q0 := (hSq.cell (p := ⟨E20, 0, none⟩) l2).trans z0; have q1 := (hSq.cell (p := ⟨E20, 1, none⟩) l2).trans z1; have q2 := (hSq.cell (p := ⟨E20, 2, none⟩) l2).trans z2; have q3 := (hSq.cell (p := ⟨E20, 3, none⟩) l2).trans z3; have r1' := (hSq.cell (p := ⟨w.heap.size, 1, none⟩) l3).trans c1; have r3' := (hSq.cell (p := ⟨w.heap.size, 3, none⟩) l3).trans c3; have r4' := (hSq.cell (p := ⟨w.heap.size, 4, none⟩) l3).trans c4; have r5' := (hSq.cell (p := ⟨w.heap.size, 5, none⟩) l3).trans c5; have s0 := (hSq.cell (p := ⟨Y', 0, none⟩) l4).trans d0; have s1 := (hSq.cell (p := ⟨Y', 1, none⟩) l4).trans d1; have s2 := (hSq.cell (p := ⟨Y', 2, none⟩) l4).trans d2; have s3 := (hSq.cell (p := ⟨Y', 3, none⟩) l4).trans d3; have s4 := (hSq.cell (p := ⟨Y', 4, none⟩) l4).trans d4; have s5 := (hSq.cell (p := ⟨Y', 5, none⟩) l4).trans d5; go_simp <;> first | with_reducible rfl | rfl)
  simp only [Act.put, List.setIfInBounds_toArray, List.set_cons_zero, List.set_cons_succ]
  refine take_on (i := 9) (v := ?_) rfl rfl (by kernel_rfl) (by kernel_rfl) (by kernel_rfl) (fun _ _ _ h => h) rfl ?_ hHeld ?_
  rotate_left
  · (intro wq hSq; have p0 := (hSq.cell (p := ⟨E16, 0, none⟩) l1).trans x0; have p1 := (hSq.cell (p := ⟨E16, 1, none⟩) l1).trans x1; have p2 := (hSq.cell (p := ⟨E16, 2, none⟩) l1).trans x2; have p3 := (hSq.cell (p := ⟨E16, 3, none⟩) l1).trans x3; have q0 := (hSq.cell (p := ⟨E20, 0, none⟩) l2).trans z0; have q1 := (hSq.cell (p := ⟨E20, 1, none⟩) l2).trans z1; have q2 := (hSq.cell (p := ⟨E20, 2, none⟩) l2).trans z2; have q3 := (hSq.cell (p := ⟨E20, 3, none⟩) l2).trans z3; have r1' := (hSq.cell (p := ⟨w.heap.size, 1, none⟩) l3).trans c1; have r3' := (hSq.cell (p := ⟨w.heap.size, 3, none⟩) l3).trans c3; have r4' := (hSq.cell (p := ⟨w.heap.size, 4, none⟩) l3).trans c4; have r5' := (hSq.cell (p := ⟨w.heap.size, 5, none⟩) l3).trans c5; have s0 := (hSq.cell (p := ⟨Y', 0, none⟩) l4).trans d0; have s1 := (hSq.cell (p := ⟨Y', 1, none⟩) l4).trans d1; have s2 := (hSq.cell (p := ⟨Y', 2, none⟩) l4).trans d2; have s3 := (hSq.cell (p := ⟨Y', 3, none⟩) l4).trans d3; have s4 := (hSq.cell (p := ⟨Y', 4, none⟩) l4).trans d4; have s5 := (hSq.cell (p := ⟨Y', 5, none⟩) l4).trans d5; go_simp <;> first | with_reducible rfl | rfl)
  simp only [Act.put, List.setIfInBounds_toArray, List.set_cons_zero, List.set_cons_succ]
  refine take_on (i := 10) (v := ?_) rfl rfl (by kernel_rfl) (by kernel_rfl) (by kernel_rfl) (fun _ _ _ h => h) rfl ?_ hHeld ?_
  rotate_left
  · (intro wq hSq; have p0 := (hSq.cell (p := ⟨E16, 0, none⟩) l1).trans x0; have p1 := (hSq.cell (p := ⟨E16, 1, none⟩) l1).trans x1; have p2 := (hSq.cell (p := ⟨E16, 2, none⟩) l1).trans x2; have p3 := (hSq.cell (p := ⟨E16, 3, none⟩) l1).trans x3; have q0 := (hSq.cell (p := ⟨E20, 0, none⟩) l2).trans z0; have q1 := (hSq.cell (p := ⟨E20, 1, none⟩) l2).trans z1; have q2 := (hSq.cell (p := ⟨E20, 2, none⟩) l2).trans z2; have q3 := (hSq.cell (p := ⟨E20, 3, none⟩) l2).trans z3; have r1' := (hSq.cell (p := ⟨w.heap.size, 1, none⟩) l3).trans c1; have r3' := (hSq.cell (p := ⟨w.heap.size, 3, none⟩) l3).trans c3; have r4' := (hSq.cell (p := ⟨w.heap.size, 4, none⟩) l3).trans c4; have r5' := (hSq.cell (p := ⟨w.heap.size, 5, none⟩) l3).trans c5; have s0 := (hSq.cell (p := ⟨Y', 0, none⟩) l4).trans d0; have s1 := (hSq.cell (p := ⟨Y', 1, none⟩) l4).trans d1; have s2 := (hSq.cell (p := ⟨Y', 2, none⟩) l4).trans d2; have s3 := (hSq.cell (p := ⟨Y', 3, none⟩) l4).trans d3; have s4 := (hSq.cell (p := ⟨Y', 4, none⟩) l4).trans d4; have s5 := (hSq.cell (p := ⟨Y', 5, none⟩) l4).trans d5; go_simp <;> first | with_reducible rfl | rfl)
  simp only [Act.put, List.setIfInBounds_toArray, List.set_cons_zero, List.set_cons_succ]
  refine take_on (i := 11) (v := ?_) rfl rfl (by kernel_rfl) (by kernel_rfl) (by kernel_rfl) (fun _ _ _ h => h) rfl ?_ hHeld ?_
  rotate_left
  · (intro wq hSq; have p0 := (hSq.cell (p := ⟨E16, 0, none⟩) l1).trans x0; have p1 := (hSq.cell (p := ⟨E16, 1, none⟩) l1).trans x1; have p2 := (hSq.cell (p := ⟨E16, 2, none⟩) l1).trans x2; have p3 := (hSq.cell (p := ⟨E16, 3, none⟩) l1).trans x3; have q0 := (hSq.cell (p := ⟨E20, 0, none⟩) l2).trans z0; have q1 := (hSq.cell (p := ⟨E20, 1, none⟩) l2).trans z1; have q2 := (hSq.cell (p := ⟨E20, 2, none⟩) l2).trans z2; have q3 := (hSq.cell (p := ⟨E20, 3, none⟩) l2).trans z3; have r1' := (hSq.cell (p := ⟨w.heap.size, 1, none⟩) l3).trans c1; have r3' := (hSq.cell (p := ⟨w.heap.size, 3, none⟩) l3).trans c3; have r4' := (hSq.cell (p := ⟨w.heap.size, 4, none⟩) l3).trans c4; have r5' := (hSq.cell (p := ⟨w.heap.size, 5, none⟩) l3).trans c5; have s0 := (hSq.cell (p := ⟨Y', 0, none⟩) l4).trans d0; have s1 := (hSq.cell (p := ⟨Y', 1, none⟩) l4).trans d1; have s2 := (hSq.cell (p := ⟨Y', 2, none⟩) l4).trans d2; have s3 := (hSq.cell (p := ⟨Y', 3, none⟩) l4).trans d3; have s4 := (hSq.cell (p := ⟨Y', 4, none⟩) l4).trans d4; have s5 := (hSq.cell (p := ⟨Y', 5, none⟩) l4).trans d5; go_simp <;> first | with_reducible rfl | rfl)
  simp only [Act.put, List.setIfInBounds_toArray, List.set_cons_zero, List.set_cons_succ]
  refine take_on (i := 12) (v := ?_) rfl rfl (by kernel_rfl) (by kernel_rfl) (by kernel_rfl) (fun _ _ _ h => h) rfl ?_ hHeld ?_
  rotate_left
  · (intro wq hSq; have p0 := (hSq.cell (p := ⟨E16, 0, none⟩) l1).trans x0; have p1 := (hSq.cell (p := ⟨E16, 1, none⟩) l1).trans x1; have p2 := (hSq.cell (p := ⟨E16, 2, none⟩) l1).trans x2; have p3 := (hSq.cell (p := ⟨E16, 3, none⟩) l1).trans x3; have q0 := (hSq.cell (p := ⟨E20, 0, none⟩) l2).trans z0; have q1 := (hSq.cell (p := ⟨E20, 1, none⟩) l2).trans z1; have q2 := (hSq.cell (p := ⟨E20, 2, none⟩) l2).trans z2; have q3 := (hSq.cell (p := ⟨E20, 3, none⟩) l2).trans z3; have r1' := (hSq.cell (p := ⟨w.heap.size, 1, none⟩) l3).trans c1; have r3' := (hSq.cell (p := ⟨w.heap.size, 3, none⟩) l3).trans c3; have r4' := (hSq.cell (p := ⟨w.heap.size, 4, none⟩) l3).trans c4; have r5' := (hSq.cell (p := ⟨w.heap.size, 5, none⟩) l3).trans c5; have s0 := (hSq.cell (p := ⟨Y', 0, none⟩) l4).trans d0; have s1 := (hSq.cell (p := ⟨Y', 1, none⟩) l4).trans d1; have s2 := (hSq.cell (p := ⟨Y', 2, none⟩) l4).trans d2; have s3 := (hSq.cell (p := ⟨Y', 3, none⟩) l4).trans d3; have s4 := (hSq.cell (p := ⟨Y', 4, none⟩) l4).trans d4; have s5 := (hSq.cell (p := ⟨Y', 5, none⟩) l4).trans d5; go_simp <;> first | with_reducible rfl | rfl)
  simp only [Act.put, List.setIfInBounds_toArray, List.set_cons_zero, List.set_cons_succ]
  refine take_on (i := 13) (v := ?_) rfl rfl (by kernel_rfl) (by kernel_rfl) (by kernel_rfl) (fun _ _ _ h => h) rfl ?_ hHeld ?_
  rotate_left
  · (intro wq hSq; have p0 := (hSq.cell (p := ⟨E16, 0, none⟩) l1).trans x0; have p1 := (hSq.cell (p := ⟨E16, 1, none⟩) l1).trans x1; have p2 := (hSq.cell (p := ⟨E16, 2, none⟩) l1).trans x2; have p3 := (hSq.cell (p := ⟨E16, 3, none⟩) l1).trans x3; have q0 := (hSq.cell (p := ⟨E20, 0, none⟩) l2).trans z0; have q1 := (hSq.cell (p := ⟨E20, 1, none⟩) l2).trans z1; have q2 := (hSq.cell (p := ⟨E20, 2, none⟩) l2).trans z2; have q3 := (hSq.cell (p := ⟨E20, 3, none⟩) l2).trans z3; have r1' := (hSq.cell (p := ⟨w.heap.size, 1, none⟩) l3).trans c1; have r3' := (hSq.cell (p := ⟨w.heap.size, 3, none⟩) l3).trans c3; have r4' := (hSq.cell (p := ⟨w.heap.size, 4, none⟩) l3).trans c4; have r5' := (hSq.cell (p := ⟨w.heap.size, 5, none⟩) l3).trans c5; have s0 := (hSq.cell (p := ⟨Y', 0, none⟩) l4).trans d0; have s1 := (hSq.cell (p := ⟨Y', 1, none⟩) l4).trans d1; have s2 := (hSq.cell (p := ⟨Y', 2, none⟩) l4).trans d2; have s3 := (hSq.cell (p := ⟨Y', 3, none⟩) l4).trans d3; have s4 := (hSq.cell (p := ⟨Y', 4, none⟩) l4).trans d4; have s5 := (hSq.cell (p := ⟨Y', 5, none⟩) l4).trans d5; go_simp <;> first | with_reducible rfl | rfl)
  simp only [Act.put, List.setIfInBounds_toArray, List.set_cons_zero, List.set_cons_succ]
  refine take_on (i := 15) (v := ?_) rfl rfl (by kernel_rfl) (by kernel_rfl) (by kernel_rfl) (fun _ _ _ h => h) rfl ?_ hHeld ?_
  rotate_left
  · (intro wq hSq; have p0 := (hSq.cell (p := ⟨E16, 0, none⟩) l1).trans x0; have p1 := (hSq.cell (p := ⟨E16, 1, none⟩) l1).trans x1; have p2 := (hSq.cell (p := ⟨E16, 2, none⟩) l1).trans x2; have p3 := (hSq.cell (p := ⟨E16, 3, none⟩) l1).trans x3; have q0 := (hSq.cell (p := ⟨E20, 0, none⟩) l2).trans z0; have q1 := (hSq.cell (p := ⟨E20, 1, none⟩) l2).trans z1; have q2 := (hSq.cell (p := ⟨E20, 2, none⟩) l2).trans z2; have q3 := (hSq.cell (p := ⟨E20, 3, none⟩) l2).trans z3; have r1' := (hSq.cell (p := ⟨w.heap.size, 1, none⟩) l3).trans c1; have r3' := (hSq.cell (p := ⟨w.heap.size, 3, none⟩) l3).trans c3; have r4' := (hSq.cell (p := ⟨w.heap.size, 4, none⟩) l3).trans c4; have r5' := (hSq.cell (p := ⟨w.heap.size, 5, none⟩) l3).trans c5; have s0 := (hSq.cell (p := ⟨Y', 0, none⟩) l4).trans d0; have s1 := (hSq.cell (p := ⟨Y', 1, none⟩) l4).trans d1; have s2 := (hSq.cell (p := ⟨Y', 2, none⟩) l4).trans d2; have s3 := (hSq.cell (p := ⟨Y', 3, none⟩) l4).trans d3; have s4 := (hSq.cell (p := ⟨Y', 4, none⟩) l4).trans d4; have s5 := (hSq.cell (p := ⟨Y', 5, none⟩) l4).trans d5; go_simp <;> first | with_reducible rfl | rfl)
  simp only [Act.put, List.setIfInBounds_toArray, List.set_cons_zero, List.set_cons_succ]
  refine take_one (i := 14) rfl (by kernel_rfl) (fun K hK => ?_)
  go_simp
  refine (hq2.out _ hHeld).mono ?_; rintro e r2 ⟨⟨an, cn, rfl, hon⟩, hb2⟩; have hB2 := hide_it (hHeld.trans (hb2.mono hHeld.size)); replace hon := hide_it (hon.mono (Nat.le_trans hws.out hHeld.size)); clear hb2
  try go_wp2_with fail
  refine hK.out _ _ ?_ (fun hHeld => ?_)
  · exact hB2.out
  clear hK K
  try simp only [Act.put, List.setIfInBounds_toArray, List.set_cons_zero, List.set_cons_succ]
  refine take_one (i := 16) rfl (by kernel_rfl) (fun K hK => ?_)
  go_simp
  refine (hq3.out _ an cn hHeld hon.out).mono ?_; rintro e r3 ⟨rfl, hb3⟩; have hB3 := hide_it (hHeld.trans (hb3.mono hHeld.size)); clear hb3
  try go_wp2_with fail
  refine hK.out _ _ ?_ (fun hHeld => ?_)
  · exact hB3.out
  clear hK K
  try simp only [Act.put, List.setIfInBounds_toArray, List.set_cons_zero, List.set_cons_succ]
  refine take_on (i := 17) (v := ?_) rfl rfl (by kernel_rfl) (by kernel_rfl) (by kernel_rfl) (fun _ _ _ h => h) rfl ?_ hHeld ?_
  rotate_left
  · (intro wq hSq; have p0 := (hSq.cell (p := ⟨E16, 0, none⟩) l1).trans x0; have p1 := (hSq.cell (p := ⟨E16, 1, none⟩) l1).trans x1; have p2 := (hSq.cell (p := ⟨E16, 2, none⟩) l1).trans x2; have p3 := (hSq.cell (p := ⟨E16, 3, none⟩) l1).trans x3; have q0 := (hSq.cell (p := ⟨E20, 0, none⟩) l2).trans z0; have q1 := (hSq.cell (p := ⟨E20, 1, none⟩) l2).trans z1; have q2 := (hSq.cell (p := ⟨E20, 2, none⟩) l2).trans z2; have q3 := (hSq.cell (p := ⟨E20, 3, none⟩) l2).trans z3; have r1' := (hSq.cell (p := ⟨w.heap.size, 1, none⟩) l3).trans c1; have r3' := (hSq.cell (p := ⟨w.heap.size, 3, none⟩) l3).trans c3; have r4' := (hSq.cell (p := ⟨w.heap.size, 4, none⟩) l3).trans c4; have r5' := (hSq.cell (p := ⟨w.heap.size, 5, none⟩) l3).trans c5; have s0 := (hSq.cell (p := ⟨Y', 0, none⟩) l4).trans d0; have s1 := (hSq.cell (p := ⟨Y', 1, none⟩) l4).trans d1; have s2 := (hSq.cell (p := ⟨Y', 2, none⟩) l4).trans d2; have s3 := (hSq.cell (p := ⟨Y', 3, none⟩) l4).trans d3; have s4 := (hSq.cell (p := ⟨Y', 4, none⟩) l4).trans d4; have s5 := (hSq.cell (p := ⟨Y', 5, none⟩) l4).trans d5; go_simp <;> first | with_reducible rfl | rfl)
  simp only [Act.put, List.setIfInBounds_toArray, List.set_cons_zero, List.set_cons_succ]
  refine take_on (i := 18) (v := ?_) rfl rfl (by kernel_rfl) (by kernel_rfl) (by kernel_rfl) (fun _ _ _ h => h) rfl ?_ hHeld ?_
  rotate_left
  · (intro wq hSq; have p0 := (hSq.cell (p := ⟨E16, 0, none⟩) l1).trans x0; have p1 := (hSq.cell (p := ⟨E16, 1, none⟩) l1).trans x1; have p2 := (hSq.cell (p := ⟨E16, 2, none⟩) l1).trans x2; have p3 := (hSq.cell (p := ⟨E16, 3, none⟩) l1).trans x3; have q0 := (hSq.cell (p := ⟨E20, 0, none⟩) l2).trans z0; have q1 := (hSq.cell (p := ⟨E20, 1, none⟩) l2).trans z1; have q2 := (hSq.cell (p := ⟨E20, 2, none⟩) l2).trans z2; have q3 := (hSq.cell (p := ⟨E20, 3, none⟩) l2).trans z3; have r1' := (hSq.cell (p := ⟨w.heap.size, 1, none⟩) l3).trans c1; have r3' := (hSq.cell (p := ⟨w.heap.size, 3, none⟩) l3).trans c3; have r4' := (hSq.cell (p := ⟨w.heap.size, 4, none⟩) l3).trans c4; have r5' := (hSq.cell (p := ⟨w.heap.size, 5, none⟩) l3).trans c5; have s0 := (hSq.cell (p := ⟨Y', 0, none⟩) l4).trans d0; have s1 := (hSq.cell (p := ⟨Y', 1, none⟩) l4).trans d1; have s2 := (hSq.cell (p := ⟨Y', 2, none⟩) l4).trans d2; have s3 := (hSq.cell (p := ⟨Y', 3, none⟩) l4).trans d3; have s4 := (hSq.cell (p := ⟨Y', 4, none⟩) l4).trans d4; have s5 := (hSq.cell (p := ⟨Y', 5, none⟩) l4).trans d5; go_simp <;> first | with_reducible rfl | rfl)
  simp only [Act.put, List.setIfInBounds_toArray, List.set_cons_zero, List.set_cons_succ]
  refine wpAnyH_done (by kernel_rfl) ?_ _
  have hK23 := hide_it (hK22.out.below hHeld)
  clear hK22 hq1 hq2 hq3 hws hB1 hB2 hB3 hon x0 x1 x2 x3 z0 z1 z2 z3 c0 c1 c2 c3 c4 c5 d0 d1 d2 d3 d4 d5 l1 l2 l3 l4
  go_wp2_with fail
  obtain ⟨W23, rfl⟩ : ∃ x, x = r3 := ⟨_, rfl⟩
  have hF8 : Hid (All8 F) := by
    unfold Hid
    rw [hF.out]
    split
    · next h => exact encE_all h hv8
    · intro z hz; cases hz
  have hx := withRoom10_any aw cw F W23 (own_row (hK23.out.apt.own 0 _ rfl)).1 (by omega) (own_row (hK23.out.apt.own 0 _ rfl)).2
  refine hx.mono ?_
  rintro e W24 ⟨⟨v23, rfl, ho⟩, hb⟩
  obtain ⟨ar, cr, hvr, _, hrc, hrm, hnr⟩ := ho.row
  have hrl : (F ++ marks 70).length = F.length + 70 := by rw [List.length_append, marks_len]
  rw [hrl] at hvr hrc
  subst hvr
  obtain ⟨ad2, rfl⟩ : ∃ ad, ar = some ad := by
    cases ar with
    | none => have := (hnr rfl).1; rw [hrl] at this; omega
    | some ad => exact ⟨ad, rfl⟩
  have hK24 := hide_it (hK23.out.push hb ho)
  clear hx hb ho hK23 hnr
  obtain ⟨DX, hDX⟩ : ∃ x, x = (decE F).getD zeroEn := ⟨_, rfl⟩
  obtain ⟨df, hdf⟩ : ∃ f : Nat, f = (if (decE F).isSome then 0 else 100 : Nat) := ⟨_, rfl⟩
  have hdec : Hid (∀ W, RowB W (some ad2) F → Calls Try.prog 19 #[.slice (some ad2) F.length cr] W fun e w' => (∃ a c, e = .returned (.tuple #[valE DX a c, .int .i64 (df : Int)]) ∧ OwnB w' W.heap.size (.slice a DX.val.length c) DX.val) ∧ Below W.heap.size W w') := fun W h => by
    have hd := decode_any (some ad2) cr F W h hF8.out (by omega) (fun e => by cases e)
    unfold DecTo at hd
    rw [← hDX, ← hdf] at hd
    exact hd
  have hrdec : Hid (∀ W, RowB W aw F → Calls Try.prog 20 #[.slice aw F.length cw] W fun e w' => (∃ a c, e = .returned (.tuple #[valE DX a c, .int .i64 (df : Int)]) ∧ OwnB w' W.heap.size (.slice a DX.val.length c) DX.val) ∧ Below W.heap.size W w') := fun W h => by
    have hd := rdecode_any aw cw F W h hF8.out hFc hcm hnw (by omega)
    unfold DecTo at hd
    rw [← hDX, ← hdf] at hd
    exact hd
  replace hDX := hide_it hDX
  replace hdf := hide_it hdf
  have hx := hdec.out W24 (own_front (hK24.out.apt.own 10 _ rfl))
  replace hrl := hide_it hrl
  replace hnw := hide_it hnw
  go_wp2_with fail
  refine hx.mono ?_
  rintro e W25 ⟨⟨a1', c1', rfl, ho⟩, hb⟩
  have hK25 := hide_it ((hK24.out.push hb ho).newE DX a1' c1')
  clear hx hb ho hK24
  obtain ⟨W26, hW26⟩ : ∃ W, W = boxE W25 DX a1' c1' := ⟨_, rfl⟩
  rw [← hW26] at hK25
  obtain ⟨E24, hE24⟩ : ∃ E, E = W25.heap.size := ⟨_, rfl⟩
  rw [← hE24] at hK25
  have hx := hdec.out W26 (own_front (hK25.out.apt.own 10 _ rfl))
  go_wp2_with fail
  change Calls _ _ _ (boxE W25 DX a1' c1') _
  rw [← hW26, ← hE24]
  clear hW26 hE24
  refine hx.mono ?_
  rintro e W27 ⟨⟨a2', c2', rfl, ho⟩, hb⟩
  have hK27 := hide_it ((hK25.out.push hb ho).newE DX a2' c2')
  clear hx hb ho hK25
  obtain ⟨W28, hW28⟩ : ∃ W, W = boxE W27 DX a2' c2' := ⟨_, rfl⟩
  rw [← hW28] at hK27
  obtain ⟨E26, hE26⟩ : ∃ E, E = W27.heap.size := ⟨_, rfl⟩
  rw [← hE26] at hK27
  have hx := stays_any (some ad2) aw cr cw F W28 (own_row (hK27.out.apt.own 10 _ rfl)).1 (own_row (hK27.out.apt.own 0 _ rfl)).1 hF8.out (by omega)
  go_wp2_with fail
  change Calls _ _ _ (boxE W27 DX a2' c2') _
  rw [← hW28, ← hE26]
  clear hW28 hE26
  refine hx.mono ?_
  rintro e W29 ⟨rfl, hb⟩
  have hK29 := hide_it (hK27.out.below hb)
  clear hx hb hK27
  have hx := hrdec.out W29 (own_row (hK29.out.apt.own 0 _ rfl)).1
  go_wp2_with fail
  refine hx.mono ?_
  rintro e W30 ⟨⟨a3', c3', rfl, ho⟩, hb⟩
  have hK30 := hide_it ((hK29.out.push hb ho).newE DX a3' c3')
  have x4 := ((hK29.out.push hb ho).ens 6 _ rfl).1.inE.c4
  have l6 := ((hK29.out.push hb ho).ens 6 _ rfl).1.lt
  simp only at x4 l6
  clear hx hb ho hK29
  obtain ⟨W31, hW31⟩ : ∃ W, W = boxE W30 DX a3' c3' := ⟨_, rfl⟩
  rw [← hW31] at hK30
  obtain ⟨E28, hE28⟩ : ∃ E, E = W30.heap.size := ⟨_, rfl⟩
  rw [← hE28] at hK30
  have hDl : DX.val.length ≤ 140737488351232 := by
    rw [hDX.out]
    cases h : decE F with
    | none => simp [zeroEn]
    | some x => have := (may_parts (dec_some h).2).val; simp only [Option.getD_some]; omega
  have hx := spoil_any a1' c1' DX.val y4 w.heap.size W31 (hK30.out.apt.own 11 _ rfl) hK30.out.bel.size (by omega)
  go_wp2_with fail
  rw [hy4.out]
  change Calls _ _ _ (boxE W30 DX a3' c3') _
  rw [← hW31, ← hE28]
  clear hW31 hE28 x4 l6
  refine hx.mono ?_
  rintro e W32 ⟨rfl, hg⟩
  have hK32 := hide_it (hK30.out.gone (k := 11) rfl hg)
  clear hx hg hK30 hy4
  obtain ⟨M2, hM2⟩ : ∃ M, M = F.length + 70 := ⟨_, rfl⟩
  have hM2l : M2 ≤ 140737488351302 := by omega
  obtain ⟨LR, hLR⟩ : ∃ L, L = F ++ marks 70 := ⟨_, rfl⟩
  have hLRl : LR.length = M2 := by rw [hLR, List.length_append, marks_len, hM2]
  have hM2p : 0 < M2 := by omega
  rw [← hM2, ← hLR] at hK32
  rw [← hM2] at hrc ⊢
  clear hM2 hLR hrl
  obtain ⟨G2, rfl⟩ : ∃ G, ad2 = ⟨G, 0, none⟩ := by
    obtain ⟨g', cur, e', _⟩ := (hK32.out.apt.own 10 _ rfl).at (by simp only; rw [hLRl]; exact hM2p)
    exact ⟨g', Option.some.inj e'⟩
  have hO1 := hide_it (hK32.out.apt.own 10 _ rfl)
  simp only at hO1
  replace hLRl := hide_it hLRl
  have hwf : Hid (∀ (w' : World) (k : Nat), OwnB w' w.heap.size (.slice (some ⟨G2, 0, none⟩) M2 cr) (List.replicate k y ++ LR.drop k) → k < M2 → w'.cell? ⟨G2, k, none⟩ = some (.int .u8 ((at0 (List.replicate k y ++ LR.drop k) k : Nat) : Int)) ∧ w'.frozen? ⟨G2, k, none⟩ = false ∧ OwnB (w'.setCell ⟨G2, k, none⟩ (.int .u8 (y : Int))) w.heap.size (.slice (some ⟨G2, 0, none⟩) M2 cr) (List.replicate (k + 1) y ++ LR.drop (k + 1))) := fun w' k h hk => by
    have hfl : (List.replicate k y ++ LR.drop k).length = M2 := by rw [fill_len (by rw [hLRl.out]; omega), hLRl.out]
    obtain ⟨g', cur, e', hnn, _, hhc, hcc⟩ := h.at (by rw [hfl]; omega)
    have e2 : G2 = g' := congrArg Addr.block (Option.some.inj e')
    subst e2
    refine ⟨?_, frozen_of_row w' G2 k _ _ hhc, ?_⟩
    · rw [cell_of_row _ _ _ _ _ _ hhc]; exact hcc k (by rw [hfl]; exact hk)
    · have hset := h.set (i := k) (by rw [hfl]; exact hk) y
      rw [fill_step (by rw [hLRl.out]; exact hk)] at hset
      exact hset
  clear hdec hrdec
  go_wp2_with fail
  go_loopw [30] (fun i wr => ∃ k : Nat, k ≤ M2 ∧ i = .int .i64 (k : Int) ∧ Hid (OwnB wr w.heap.size (.slice (some ⟨G2, 0, none⟩) M2 cr) (List.replicate k y ++ LR.drop k)) ∧ Hid (W32.grownBy wr (some G2))) (fun i _ => M2 - (intOf i).toNat)
  case atStart => exact ⟨0, by omega, rfl, (by show OwnB _ _ _ _; simpa using hO1.out), World.grownBy.refl _ _⟩
  case round =>
  obtain ⟨j, hj, rfl, hO, hG⟩ := hrel
  by_cases hlt : j < M2
  · have hki : (j : Int) < (M2 : Int) := by omega
    obtain ⟨hcell, hfz, hset⟩ := hwf.out _ _ hO.out hlt
    have HS := hide_it hset
    have HGR := hide_it (grown_setCell (g := G2) hG.out j (.int .u8 (y : Int)))
    clear hO hG hset hO1 hwf hK32
    generalize at0 (List.replicate j y ++ LR.drop j) j = q at *
    go_wp2
    go_roundw
    case rel => exact ⟨j + 1, by omega, by go_num, HS.out, HGR.out⟩
    case measure => simp [intOf]; omega
  have hjn : ¬ (j : Int) < (M2 : Int) := by omega
  have hK33 := hide_it (hK32.out.gone (k := 10) rfl hG.out)
  clear hO hG hO1 hwf hK32
  obtain ⟨W33, rfl⟩ : ∃ x, x = wr := ⟨_, rfl⟩
  obtain ⟨x0, x1, x2, x3, x4, x5⟩ := (hK33.out.ens 7 _ rfl).1.inE
  obtain ⟨z0, z1, z2, z3, z4, z5⟩ := (hK33.out.ens 8 _ rfl).1.inE
  simp only at x0 x1 x2 x3 x4 x5 z0 z1 z2 z3 z4 z5
  have hx := same_eq DX a2' a3' c2' c3' W33 (own_row (hK33.out.apt.own 12 _ rfl)).1 (own_row (hK33.out.apt.own 13 _ rfl)).1 (own_row (hK33.out.apt.own 12 _ rfl)).2 (own_row (hK33.out.apt.own 13 _ rfl)).2
  go_wp2_with fail
  refine hx.mono ?_
  rintro e W34 ⟨rfl, hb⟩
  have hend := hide_it (hK33.out.below hb).bel
  clear hx hb hK33 x0 x1 x2 x3 x4 x5 z0 z1 z2 z3 z4 z5
  go_wp2_with fail
  go_ret
  exact ⟨rfl, hend.out⟩
end Go.Proofs.Ytlhlpofmeeiffab.entryKeeps
