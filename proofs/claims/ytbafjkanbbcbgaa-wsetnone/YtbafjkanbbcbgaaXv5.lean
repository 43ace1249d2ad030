/- Over's walk. -/
import Derived.Test.YtbafjkanbbcbgaaXv7
namespace Go.Proofs.Ytbafjkanbbcbgaa
open Go.RowKit Go.Maps Go.Shelf

attribute [local go_sem] Oper.semAt_some

/-- How long the slice in a box is. -/
def lenAt (w : World) (b : Nat) : Nat := match w.cell? ⟨b, 0, none⟩ with | some (.slice _ n _) => n | _ => 0

set_option maxRecDepth 100000 in
set_option maxHeartbeats 8000000 in
theorem over_any (m l B : Nat) (p : Option Addr) (fr to : ByteArray) {F KU Kg : Nat → Prop} {M : List Vn} {uv : Value} {A : Nat → World → Prop} {us : List Pn} (W : World) (hm : 1 ≤ m) (hO : Ov4 W B p fr to uv) (hS : Ost W F p M) (hU : UndIs W KU (K0v F B Kg) uv A us)
    (hF : ∀ j, F j → j < W.heap.size) (hKU : ∀ j, KU j → j < W.heap.size) (hKg : ∀ j, Kg j → j < W.heap.size) (hFK : ∀ j, KU j → ¬ F j ∧ ¬ (B ≤ j ∧ j < B + 4)) (hus : ∀ x ∈ us, x.k.size ≤ maxLen) (J Jx : (Nat → Prop) → List Pn → World → Prop)
    (hY : ∀ T T' pre x X W1, J T pre X → Chg T X W1 → (∀ j, T j → j < X.heap.size) → (∀ j, T j → T' j) → (∀ j, T' j → tillT T X W1 j) → GO KU A (ovA (saysV M) fr.data.toList to.data.toList (saysP us)) us T' pre x X W1 → YieldAt Fence.wide (m - 1) Try.prog l #[prV x] W1 fun e W' =>
      KpS (fun j => T' j ∨ K0v F B Kg j) W1 W' ∧ ((e = .returned (.bool true) ∧ J T' (pre ++ [x]) W') ∨ (e = .returned (.bool false) ∧ Jx T' (pre ++ [x]) W')))
    (h0 : J KU [] W) :
    CallsIn Fence.wide m Try.prog 45 #[.func (.yield l) #[] #[], .pointer (some ⟨B, 0, none⟩), .pointer (some ⟨B + 1, 0, none⟩), .pointer (some ⟨B + 2, 0, none⟩), .pointer (some ⟨B + 3, 0, none⟩)] W fun e W' => (∃ v, e = .returned v) ∧
      ((∃ T xs X, (∀ j, T j → j < X.heap.size) ∧ SO A (ovA (saysV M) fr.data.toList to.data.toList (saysP us)) us xs W' ∧ J T xs X ∧ Chg T X W') ∨ (∃ T pre X, (∀ j, T j → j < X.heap.size) ∧ PO A (ovA (saysV M) fr.data.toList to.data.toList (saysP us)) pre W' ∧ Jx T pre X ∧ Chg T X W')) := by
  obtain ⟨L, hL⟩ : ∃ L, L = ovA (saysV M) fr.data.toList to.data.toList (saysP us) := ⟨_, rfl⟩
  rw [← hL] at hY ⊢
  obtain ⟨W1, hW1⟩ : ∃ W1, W1 = W.alloc (.cells #[.func (.yield l) #[] #[]] 83) := ⟨_, rfl⟩
  have hb1 : Below W.heap.size W W1 := by rw [hW1]; exact (Below.refl _ _).alloc (Nat.le_refl _) _
  have hz1 : W1.heap.size = W.heap.size + 1 := by rw [hW1]; simp
  have hyb : Boxed W1 W.heap.size 83 (.func (.yield l) #[] #[]) := by rw [hW1]; exact Boxed.new W _ _
  have hO1 := hO.below hb1
  have hS1 := hS.below hb1
  have hU1 := hU.below (fun j hj => by
    rcases hj with hj | hj | hj | hj
    · exact hKU j hj
    · exact hF j hj
    · have := hO.b3.lt; omega
    · exact hKg j hj) hb1
  obtain ⟨hMl, hMs, hMr, _⟩ := hS.small
  have hvf : ∀ e ∈ M, ValF W1 F e := by
    rcases hS1 with ⟨_, rfl⟩ | ⟨s, mb, _, h⟩
    · intro e he; cases he
    · exact fun e he => ⟨(h.each e he).b, (h.each e he).f⟩
  obtain ⟨mb, hcp0, hmbF, hall⟩ := hS1.all
  have hcp : ∀ z, Below W1.heap.size W1 z → CopyW z mb M := fun z hz => hcp0.keep fun b e => hz.block b (by have := hF b (hmbF b e); omega)
  have hps : ∀ z, Below W1.heap.size W1 z → Calls Try.prog 47 #[.pointer p, .string fr, .string to] z fun e w' => (∃ v zs, e = .returned v ∧ OwV w' z.heap.size v zs ∧ (∀ y ∈ zs, ValF W1 F y ∧ y ∈ M) ∧ saysV zs = putsW (saysV M) fr.data.toList to.data.toList) ∧ Below z.heap.size z w' := fun z hz => by
    refine ((hS1.below hz).puts fr to).mono ?_
    rintro e w' ⟨⟨v, zs, h1, h2, h3, h4⟩, h5⟩
    exact ⟨⟨v, zs, h1, h2, fun y hy => ⟨hvf y (h3 y hy).2, (h3 y hy).2⟩, h4⟩, h5⟩
  have c0 := hO1.b0.cell
  have c1 := hO1.b1.cell
  have c2 := hO1.b2.cell
  have hl0 := hO1.b0.lt
  have hl1 := hO1.b1.lt
  have hl2 := hO1.b2.lt
  refine callsIn_of_wp_marks Try.func45 rfl trivial ?_ rfl
  simp only [Try.ntmps45, List.size_toArray, List.length_cons, List.length_nil, Nat.reduceAdd, Nat.reduceSub, Array.replicate_succ, Array.replicate_zero, List.push_toArray, List.append_toArray, List.nil_append, List.cons_append]
  gi_wp2_with fail
  rw [← hW1]
  rename_i K1 hK1
  have hrest : ∀ (b6 b7 : Nat) (mc : Option Nat) (a : Option Addr) (n c : Nat) (zs : List Vn) (w4 : World), PFin W1 F M fr.data.toList to.data.toList w4 b6 b7 mc a n c zs →
      K1 { tmps := #[.func (.yield l) #[] #[], .pointer (some ⟨B, 0, none⟩), .pointer (some ⟨B + 1, 0, none⟩), .pointer (some ⟨B + 2, 0, none⟩), .pointer (some ⟨B + 3, 0, none⟩), .pointer (some ⟨W.heap.size, 0, none⟩), .pointer (some ⟨b6, 0, none⟩), .pointer (some ⟨b7, 0, none⟩), undef, undef, undef, undef, undef, .pointer p, .map mb, .map mc, .pointer p, .string fr, .string to, .slice a n c, undef, undef, undef, undef, undef, undef, undef, undef, undef, undef, undef, undef, undef, undef, undef, undef, undef, undef, undef, undef, undef, undef, undef, undef, undef, undef, undef, undef, undef, undef, undef, undef, undef, undef, undef, undef, undef, undef, undef, undef, undef, undef, undef, undef, undef, undef, undef, undef, undef, undef, undef], defers := [] } w4 := by
    intro b6 b7 mc a n c zs w4 hp
    refine hK1 _ _ ?_
    have hbW4 := hp.bel
    have hbW : Below W.heap.size W w4 := hb1.trans (hbW4.mono hb1.size)
    have hO4 := hO1.below hbW4
    have c3 := hO4.b3.cell
    have huf : isF uv := by
      cases hU with
      | none => exact .inl rfl
      | some => exact .inr ⟨_, _, _, rfl⟩
    obtain ⟨w5, hw5⟩ : ∃ w5, w5 = w4.alloc (.cells #[uv] 74) := ⟨_, rfl⟩
    have hb45 : Below w4.heap.size w4 w5 := by rw [hw5]; exact (Below.refl _ _).alloc (Nat.le_refl _) _
    have hz5 : w5.heap.size = w4.heap.size + 1 := by rw [hw5]; simp
    have hBu : Boxed w5 w4.heap.size 74 uv := by rw [hw5]; exact Boxed.new w4 _ _
    have hlf := listened_fn uv huf w4
    rw [← hw5] at hlf
    have hbW5 : Below W.heap.size W w5 := hbW.trans (hb45.mono hbW.size)
    have hb15 : Below W1.heap.size W1 w5 := hbW4.trans (hb45.mono hbW4.size)
    obtain ⟨g, hg⟩ : ∃ g, g = (Value.slice a n c).ownBlock := ⟨_, rfl⟩
    have hz14 := hbW4.size
    -- the walk's own blocks
    have hown : ∀ j, OwnO W.heap.size b6 b7 mc g j → W.heap.size ≤ j ∧ j < w4.heap.size := fun j hj => by
      rcases hj with rfl | rfl | rfl | hj | hj
      · exact ⟨Nat.le_refl _, by omega⟩
      · exact ⟨by have := hp.l6; omega, hp.x6.lt⟩
      · exact ⟨by have := hp.l7; omega, hp.x7.lt⟩
      · obtain ⟨h5, es, k, h6⟩ := hp.lc j hj
        exact ⟨by omega, (Array.getElem?_eq_some_iff.1 h6).1⟩
      · obtain ⟨h5, h6⟩ := OwnS.inside hp.ow j (hg.symm.trans hj)
        exact ⟨by omega, h6⟩
    have hkr : ∀ j, K0v F B Kg j → j < W.heap.size := fun j hj => by
      rcases hj with hj | hj | hj
      · exact hF j hj
      · have := hO.b3.lt; omega
      · exact hKg j hj
    have hUR : ∀ j, KU j ∨ K0v F B Kg j → j < W.heap.size := fun j hj => hj.elim (hKU j) (hkr j)
    obtain ⟨l2, hl2⟩ : ∃ l2, l2 = w5.heap.size + 1 := ⟨_, rfl⟩
    have hct5 : OCt F M l W.heap.size b6 b7 mc g zs 0 a n c w5 := by
      refine (OCt.keep (w := w4) ⟨(hbW4.block _ (by omega)).trans hyb, hp.x6, hp.x7, hp.cp, OwnS.mono hp.ow (Nat.zero_le _), fun j hj => by rw [hg]; exact hj, fun y hy => ⟨⟨(hp.vl y hy).1.b.hold fun j hj => hbW4.block j ((hp.vl y hy).1.b.inside j hj), (hp.vl y hy).1.f⟩, (hp.vl y hy).2⟩⟩ (fun j _ hj => hb45.block j hj) (fun j _ hj => hb45.block j hj))
    have hinv0 : ovT (isW (saysV M)) 0 (zs.map prX) (us.map prU) = L := by
      rw [hL]; unfold ovA putsP
      rw [← hp.sy, saysP_eq]
      unfold saysV
      rw [List.map_map]; rfl
    have hst0 : OSt J KU (K0v F B Kg) (fun _ => False) L (isW (saysV M)) us F M l W.heap.size b6 b7 l2 mc g zs 0 0 0 a n c KU [] W w5 :=
      ⟨h0, Chg.new hbW5, hKU, fun _ h => h, hkr, fun j hj => by
        rcases hj with hj | hj
        · exact .inr ⟨(hown j hj).1, by have := (hown j hj).2; omega⟩
        · exact hj.elim, fun j hj => .inl (by omega), hct5, hp.ln, ⟨[], rfl, hinv0⟩⟩
    have hU5 : UndIs w5 KU (K0v F B Kg) uv A us := hU.below hUR hbW5
    have hKi : ∀ j, (KU j ∨ K0v F B Kg j) → j < w5.heap.size := fun j hj => by
      have := hUR j hj; have := hbW5.size; omega
    have HUK := hide_it (hU.below hUR hbW5)
    have htells := tellsL (m - 1) w4.heap.size hBu hU5 hKi
    have hln := hU.len
    have HOWN := hide_it hown
    have HCT := hide_it hct5
    have HINV := hide_it hinv0
    have HU5 := hide_it hU5
    have HKI := hide_it hKi
    have HY := hide_it hY
    have HST := hide_it hst0
    have HZ5 := hide_it hz5
    clear hct5 hinv0 hU5 hKi hY hst0 hz5 hU hU1 hS hS1 hO hO1 hO4 hw5
    gi_wp2_with fail
    first | refine ⟨trivial, (fun h => by cases h), (callsIn_wide.2 hlf).mono ?_⟩ | refine ⟨(fun h => by cases h), (callsIn_wide.2 hlf).mono ?_⟩ | refine ⟨trivial, (callsIn_wide.2 hlf).mono ?_⟩
    rintro e w5' ⟨rfl, hw5'⟩
    obtain rfl := hw5'.symm
    clear hw5' hlf
    gi_wp2_with fail
    generalize hact : ({ tmps := _, defers := [] } : Act) = act0
    have hl2o : ∀ j, OwnO W.heap.size b6 b7 mc g j → j < l2 := fun j hj => by have := (HOWN.out j hj).2; have := HZ5.out; omega
    have hl2F : ∀ j, F j → j < l2 := fun j hj => by have := hF j hj; have := hbW5.size; omega
    subst hl2
    refine range_tellsT (α := Pn) (F := Fence.wide) rfl hm (gf := 55) (lb := #[.pointer (some ⟨w4.heap.size, 0, none⟩)]) (by rw [← hact]; rfl) trivial (enters_of Try.func55 (by kernel_rfl) rfl)
      htells (Below.refl _ _) (fun j hj => HKI.out j (.inl hj)) (fun j hj => HKI.out j (.inr hj)) ?hS ?hSp ?hG (fun _ => rfl)
      (OI J KU (K0v F B Kg) L (isW (saysV M)) us F M l W.heap.size b6 b7 (w5.heap.size + 1) mc g zs) (OX Jx L (w5.heap.size + 1)) (fun T pre W o h => h.alloc o) (fun T pre W o o' h h1 _ _ => h.put h1 o' hl2o hl2F) ?hIxp ?h0 (fun T T' pre X W' h1 h2 h3 h4 => h3.chg h1 h2 h4 fun j hj => .inl hj) ?hIxc
      (fun x => .cells #[.string x.k, .slice x.a x.z.length x.c] 60) (fun x b => { tmps := (act0.tmps.setIfInBounds 22 (prV x)).setIfInBounds 8 (.pointer (some ⟨b, 0, none⟩)), defers := [] }) ?hGa ?assign ?body ?done ?stop
    case hS => exact fun xs W l o o' h1 h2 h3 ⟨h4, h5⟩ => ⟨h4, HU5.out.stays h5 (by simp) fun j hj => World.putObj_heap_other (fun e => by have := HKI.out j hj; omega)⟩
    case hSp => exact fun xs W l o o' h1 h2 h3 ⟨h4, h5, h6⟩ => ⟨h4, h5, HU5.out.stays h6 (by simp) fun j hj => World.putObj_heap_other (fun e => by have := HKI.out j hj; omega)⟩
    case hG => exact fun T pre x X W l o o' h1 h2 h3 ⟨h4, h5, h6, h7⟩ => ⟨h4, h5, HU5.out.stays h6 (by simp) (fun j hj => World.putObj_heap_other (fun e => by have := HKI.out j hj; omega)), h7⟩
    case hGa => exact fun T pre x X W o ⟨h4, h5, h6, h7⟩ => ⟨h4, h5, HU5.out.grow h6 ((Below.refl _ _).alloc (Nat.le_refl _) _), h7⟩
    case hIxp =>
      rintro c T pre W o o' ⟨h1, T', X, pre', h2⟩ h3 _ _
      have h4 := (Array.getElem?_eq_some_iff.1 h3).1
      refine ⟨h1, T', X, pre', h2.chg (chg_put _ o') fun j hj hl => ?_⟩
      subst hj
      rcases h2.l2 _ (.inl rfl) with h5 | h5
      · exact .inr ⟨h5, h4⟩
      · exact .inl h5
    case h0 =>
      refine ⟨_, W, [], 0, a, n, c, HST.out, fun j hj => .inl hj, fun j hj e => ?_, fun j hj e => (hFK j e).1 hj⟩
      have := HOWN.out j hj
      have := hKU j e
      omega
    case hIxc =>
      rintro c T pre X W' hb ⟨h1, T', X', pre', h2⟩ hc
      exact ⟨h1, T', X', pre', h2.chg hc fun j hj _ => h2.ti j hj⟩
    case assign =>
      subst hact
      intro l x W K hK
      unfold prV at hK ⊢
      gi_wp2
      simp only [List.setIfInBounds_toArray, List.set_cons_zero, List.set_cons_succ] at hK
      exact hK
    case body =>
      subst hact
      rintro l1 b Ti prei x X0 W0 Wb rfl hb hlb hbx ⟨r, hlr⟩ hTb hTl ⟨T, X, pre, i, a1, n1, c1, hst, hTi, hTo, hTF⟩ hcw hbl ⟨hx1, hx2, hx3, hx4⟩
      have hl2b : w5.heap.size + 1 < Wb.heap.size := (Array.getElem?_eq_some_iff.1 hlr).1
      obtain ⟨Ex, hEx⟩ : ∃ Ex : Nat → Prop, Ex = fun j => j = b ∨ j = w5.heap.size + 1 ∨ j + 1 = w5.heap.size + 1 ∨ Ti j := ⟨_, rfl⟩
      have hst1 := hst.chg hcw (fun j hj => ⟨fun e => by have := hl2o j e; omega, fun e => by have := hl2F j e; omega⟩) (fun j hj => by
        rcases hst.l2 j (.inl hj) with h5 | h5
        · exact .inr ⟨h5, by omega⟩
        · exact .inl h5)
      have hExl : ∀ j, Ex j ∨ K0v F B Kg j → j < Wb.heap.size := fun j hj => by
        rw [hEx] at hj
        rcases hj with (rfl | rfl | hj | hj) | hj
        · exact hbl
        · exact hl2b
        · omega
        · have := hTb j hj; omega
        · have := hUR j (.inr hj); have := hbW5.size; omega
      have hX0 := hst.ch.size
      have hst2 : OSt J KU (K0v F B Kg) Ex L (isW (saysV M)) us F M l W.heap.size b6 b7 (w5.heap.size + 1) mc g zs prei.length i i a1 n1 c1 T pre X Wb :=
        ⟨hst1.j, hst1.ch, hst1.b, hst1.k0, hst1.kr, fun j hj => by
          rcases hj with hj | hj
          · exact hst1.own j (.inl hj)
          · have hjl := hExl j (.inl hj)
            rw [hEx] at hj
            rcases hj with rfl | rfl | hj | hj
            · exact .inr ⟨by omega, hbl⟩
            · rcases hst1.l2 _ (.inl rfl) with h5 | h5
              · exact .inr ⟨h5, hjl⟩
              · exact .inl h5
            · rcases hst1.l2 _ (.inr hj) with h5 | h5
              · exact .inr ⟨h5, hjl⟩
              · exact .inl h5
            · exact (hTi j hj).imp id fun e => ⟨e.1, by omega⟩, hst1.l2, hst1.ct, hst1.ln, hst1.inv⟩
      have hux : us[prei.length]? = some x := by rw [hx2, List.getElem?_eq_getElem hx1, pn_get hx1]
      have hREL : ∃ T X pre i a n c, OSt J KU (K0v F B Kg) Ex L (isW (saysV M)) us F M l W.heap.size b6 b7 (w5.heap.size + 1) mc g zs prei.length i i a n c T pre X Wb ∧ A (prei.length + 1) Wb ∧ True := ⟨T, X, pre, i, a1, n1, c1, hst2, hx3, trivial⟩
      have hOE : ∀ j, OwnO W.heap.size b6 b7 mc g j → ¬ (Ex j ∨ K0v F B Kg j) := fun j hj e => by
        have := (HOWN.out j hj).2
        have := HZ5.out
        rw [hEx] at e
        rcases e with (e | e | e | e) | e
        · omega
        · omega
        · omega
        · exact hTo j hj e
        · have := hUR j (.inr e); have := (HOWN.out j hj).1; omega
      have HOE := hide_it hOE
      have HTO := hide_it hTo
      have HTF := hide_it hTF
      clear hOE
      have HREL := hide_it hREL
      have HEX := hide_it hEx
      have HEXL := hide_it hExl
      have HUX := hide_it hux
      have HBX := hide_it hbx
      have HHUS := hide_it (hus x (List.mem_of_getElem? hux))
      clear hREL hEx hExl hux hbx hst2 hst1 hst hTi hTo hTF hX0 hx1 hx2 hx3 hx4 hlr hcw hTb hTl hb hus
      unfold prV
      gi_wp2_with fail
      rename_i K7 hK7
      have hAfter : ∀ (t23 t24 t25 t26 t27 t28 t29 t30 t31 t32 t33 t34 t35 t36 t37 t38 t39 t40 t41 t42 t43 : Value) (w7 : World), (∃ T X pre i a n c, OSt J KU (K0v F B Kg) Ex L (isW (saysV M)) us F M l W.heap.size b6 b7 (w5.heap.size + 1) mc g zs prei.length i i a n c T pre X w7 ∧ A (prei.length + 1) w7 ∧ (∀ j, Ex j ∨ K0v F B Kg j → w7.heap[j]? = Wb.heap[j]?) ∧ Wb.heap.size ≤ w7.heap.size ∧ ∀ y, zs[i]? = some y → leK (ky y) (prU x).1 = false) → K7 { tmps := #[.func (.yield l) #[] #[], .pointer (some ⟨B, 0, none⟩), .pointer (some ⟨B + 1, 0, none⟩), .pointer (some ⟨B + 2, 0, none⟩), .pointer (some ⟨B + 3, 0, none⟩), .pointer (some ⟨W.heap.size, 0, none⟩), .pointer (some ⟨b6, 0, none⟩), .pointer (some ⟨b7, 0, none⟩), .pointer (some ⟨b, 0, none⟩), undef, undef, undef, undef, .pointer p, .map mb, .map mc, .pointer p, .string fr, .string to, .slice a n c, uv, .func (.func 55) #[] #[.pointer (some ⟨w4.heap.size, 0, none⟩)], .agg #[.string x.k, .slice x.a x.z.length x.c], t23, t24, t25, t26, t27, t28, t29, t30, t31, t32, t33, t34, t35, t36, t37, t38, t39, t40, t41, t42, t43, undef, undef, undef, undef, undef, undef, undef, undef, undef, undef, undef, undef, undef, undef, undef, undef, undef, undef, undef, undef, undef, undef, undef, undef, undef, undef, undef], defers := [] } w7 := by
        rintro t23 t24 t25 t26 t27 t28 t29 t30 t31 t32 t33 t34 t35 t36 t37 t38 t39 t40 t41 t42 t43 w7 ⟨T, X, pre, i, a', n', c', hst, hA, hsm, hsw, hlt⟩
        refine hK7 _ _ ?_
        have hct := hst.ct
        have cY := hct.yb.cell
        have c6 := hct.x6.cell
        have hbw : w7.heap[b]? = some (.cells #[.string x.k, .slice x.a x.z.length x.c] 60 (0, 0)) := (hsm b (.inl (by rw [HEX.out]; exact .inl rfl))).trans HBX.out
        have cb0 := cell_of_row _ _ 0 _ _ _ hbw
        have cb1 := cell_of_row _ _ 1 _ _ _ hbw
        have hlk := hct.cp.look x.k HHUS.out
        rw [isW_says] at hlk
        generalize (vnOf M x.k.data.toList).getD zeroVn = v at hlk
        obtain ⟨w8, hw8⟩ : ∃ w8, w8 = w7.alloc (.cells #[.string v.k, .int .i64 v.n, .slice v.a v.z.length v.c, .bool v.d] 41) := ⟨_, rfl⟩
        have hb8 : Below w7.heap.size w7 w8 := by rw [hw8]; exact (Below.refl _ _).alloc (Nat.le_refl _) _
        have hz8 : w8.heap.size = w7.heap.size + 1 := by rw [hw8]; simp
        have hst8 := hst.below hb8
        have hA8 := HU5.out.grow hA hb8
        have hsm8 : ∀ j, Ex j ∨ K0v F B Kg j → w8.heap[j]? = Wb.heap[j]? := fun j hj => by
          have h5 := HEXL.out j hj
          exact (hb8.block j (by omega)).trans (hsm j hj)
        obtain ⟨hno, hyes⟩ := hst8.inv_pair HUX.out hlt
        have hpl : (prei ++ [x]).length = prei.length + 1 := by simp
        -- how a round ends
        have hend : ∀ W' : World, (∀ j, Ex j ∨ K0v F B Kg j → W'.heap[j]? = Wb.heap[j]?) → (W'.heap[w5.heap.size + 1]? = Wb.heap[w5.heap.size + 1]? ∧ W'.heap[w5.heap.size]? = Wb.heap[w5.heap.size]?) ∧ (Wb.heap.size ≤ W'.heap.size → KpS (fun j => Ti j ∨ K0v F B Kg j) Wb W') := fun W' hk =>
          ⟨⟨hk _ (.inl (by rw [HEX.out]; exact .inr (.inl rfl))), hk _ (.inl (by rw [HEX.out]; exact .inr (.inr (.inl rfl))))⟩, fun hz => ⟨hz, fun j o hj h5 => (hk j (hj.imp (fun e => by rw [HEX.out]; exact .inr (.inr (.inr e))) id)).trans h5⟩⟩
        cases hw : isW (saysV M) x.k.data.toList with
        | true =>
          rw [hw] at hlk
          have hinv := hyes hw
          have hOI : OI J KU (K0v F B Kg) L (isW (saysV M)) us F M l W.heap.size b6 b7 (w5.heap.size + 1) mc g zs Ti (prei ++ [x]) w8 := by
            refine ⟨T, X, pre, i, a', n', c', ?_, fun j hj => hst8.own j (.inr (by rw [HEX.out]; exact .inr (.inr (.inr hj)))), HTO.out, HTF.out⟩
            have h5 := hst8.weak
            rw [hpl]
            exact ⟨h5.j, h5.ch, h5.b, h5.k0, h5.kr, h5.own, h5.l2, h5.ct, h5.ln, hinv⟩
          have HOI := hide_it hOI
          have HEN := hide_it (hend w8 hsm8)
          have HSZ : Hid (Wb.heap.size ≤ w8.heap.size) := hide_it (by omega)
          clear hOI hinv hno hyes hst8 hst hct hA hA8 hend hsm hsm8 hlt hpl hb8 hbw
          unfold verV at hlk
          gi_wp2_with fail
          rw [← hw8]
          clear hw8
          gi_wp2
          refine ⟨(fun f h => by cases h), ?_⟩
          gi_wp2
          exact ⟨HEN.out.1, HEN.out.2 HSZ.out, HOI.out⟩
        | false =>
          rw [hw] at hlk
          obtain ⟨hL1, hinv⟩ := hno hw
          have hl2w : w5.heap.size + 1 < w8.heap.size := by omega
          have hyx : YieldAt Fence.wide (m - 1 - 1 - 1) Try.prog l #[.agg #[.string x.k, .slice x.a x.z.length x.c]] w8 fun e W' => ∃ bb : Bool, e = .returned (.bool bb) ∧ (∀ j, Ex j ∨ K0v F B Kg j → W'.heap[j]? = Wb.heap[j]?) ∧ Wb.heap.size ≤ W'.heap.size ∧ (bb = true → OI J KU (K0v F B Kg) L (isW (saysV M)) us F M l W.heap.size b6 b7 (w5.heap.size + 1) mc g zs Ti (prei ++ [x]) W') ∧ (bb = false → OX Jx L (w5.heap.size + 1) .ret Ti (prei ++ [x]) W') := by
            refine (yieldAt_wide _ (hst8.yield HY.out x (prei.length + 1) hL1 hA8 none (.inl ⟨List.mem_of_getElem? HUX.out, rfl⟩) fun j hj => by cases hj)).mono ?_
            rintro e W' ⟨bb, T', rfl, r1, r2, r3, r4, r5, r6, r7, r8, r9, r10⟩
            have kE : ∀ j, Ex j ∨ K0v F B Kg j → W'.heap[j]? = Wb.heap[j]? := fun j hj => (r2 j (.inr (hj.imp id .inr)) (by have := HEXL.out j hj; omega)).trans (hsm8 j hj)
            refine ⟨bb, rfl, kE, by omega, fun hbb => ?_, fun hbb => ?_⟩
            · refine ⟨T', W', pre ++ [x], i, a', n', c', ?_, fun j hj => .inl (r5 j (.inr (by rw [HEX.out]; exact .inr (.inr (.inr hj))))), HTO.out, HTF.out⟩
              rw [hpl]
              exact (hst8.renew hl2w (fun j hj => .inl hj) r1 r2 r3 r4 r5 r8 (r9 hbb) hinv).weak
            · have hs := hst8.says.1
              refine ⟨rfl, T', W', pre ++ [x], r10 hbb, Chg.refl _ _, r3, fun j hj => ?_, fun j hj => .inl (r5 j (.inr (by rw [HEX.out]; exact .inr (.inr (.inr hj))))), by simp, ?_, ?_⟩
              · rcases r8 j hj with h5 | h5
                · rcases hj with h6 | h6 <;> omega
                · exact .inr h5
              · rw [List.length_append, List.length_singleton, List.take_add_one, hL1, List.map_append, ← hs]
                unfold saysP
                rw [List.map_append]; rfl
              · rw [List.length_append, List.length_singleton, Nat.add_sub_cancel, List.length_append, List.length_singleton]
                exact ⟨_, hL1⟩
          have cY8 := hst8.ct.yb.cell
          have cb08 := (hb8.cell (p := ⟨b, 0, none⟩) (by show b < w7.heap.size; have := HEXL.out b (.inl (by rw [HEX.out]; exact .inl rfl)); omega)).trans cb0
          have cb18 := (hb8.cell (p := ⟨b, 1, none⟩) (by show b < w7.heap.size; have := HEXL.out b (.inl (by rw [HEX.out]; exact .inl rfl)); omega)).trans cb1
          have hb7l : b < w7.heap.size := by have := HEXL.out b (.inl (by rw [HEX.out]; exact .inl rfl)); omega
          have hY7l : W.heap.size < w7.heap.size := hct.yb.lt
          obtain ⟨fn, tmps, assign, body, hyr, hRn⟩ := hyx
          have HEN := hide_it hend
          clear hinv hno hyes hst8 hst hct hA hA8 hend hsm hsm8 hlt hpl hb8 hbw hL1 hl2w hw
          unfold verV at hlk
          rw [hw8] at hyr
          gi_wp2_with fail
          rw [← hw8]
          clear hw8
          first | refine ⟨trivial, (fun h => by cases h), (roundIn_in (w5.heap.size + 1) hRn).mono ?_⟩ | refine ⟨(fun h => by cases h), (roundIn_in (w5.heap.size + 1) hRn).mono ?_⟩ | refine (roundIn_in (w5.heap.size + 1) hRn).mono ?_
          rintro e2 z2 ⟨bb, rfl, kE, kS, hT, hF2⟩
          obtain ⟨he1, he2⟩ := HEN.out z2 kE
          have HE1 := hide_it he1
          have HE2 := hide_it (he2 kS)
          clear hRn hyr he1 he2 kE kS
          cases bb with
          | true =>
            have HT := hide_it (hT rfl)
            clear hT hF2
            gi_wp2
            exact ⟨HE1.out, HE2.out, HT.out⟩
          | false =>
            have HT := hide_it (hF2 rfl)
            clear hT hF2
            gi_wp2
            exact ⟨HE1.out, HT.out, HE2.out⟩
      have HAFTER := hide_it hAfter
      clear hAfter hK7
      gi_loopw [43] (fun _ wl => Hid (∃ T X pre i a n c, OSt J KU (K0v F B Kg) Ex L (isW (saysV M)) us F M l W.heap.size b6 b7 (w5.heap.size + 1) mc g zs prei.length i i a n c T pre X wl ∧ A (prei.length + 1) wl ∧ (∀ j, Ex j ∨ K0v F B Kg j → wl.heap[j]? = Wb.heap[j]?) ∧ Wb.heap.size ≤ wl.heap.size)) (fun _ wl => lenAt wl b7)
      case atStart =>
        obtain ⟨T, X, pre, i, a, n, c, h1, h2, _⟩ := HREL.out
        exact hide_it ⟨T, X, pre, i, a, n, c, h1, h2, fun _ _ => rfl, Nat.le_refl _⟩
      case round =>
        clear HREL
        obtain ⟨T, X, pre, i, a, n, c, hst, hA, hsm, hsw⟩ := hrel.out
        have hct := hst.ct
        have c7 := hct.x7.cell
        have cY := hct.yb.cell
        have c6 := hct.x6.cell
        have hbw : wr.heap[b]? = some (.cells #[.string x.k, .slice x.a x.z.length x.c] 60 (0, 0)) := (hsm b (.inl (by rw [HEX.out]; exact .inl rfl))).trans HBX.out
        have cb0 := cell_of_row _ _ 0 _ _ _ hbw
        have cb1 := cell_of_row _ _ 1 _ _ _ hbw
        have hn := hst.ln
        by_cases hi : i < zs.length
        · obtain ⟨y, hy⟩ : ∃ y, zs[i]? = some y := ⟨_, List.getElem?_eq_getElem hi⟩
          have hdl : (zs.drop i).length = n := by rw [List.length_drop]; exact hn.symm
          have hvn : vn (zs.drop i) 0 = y := by
            unfold vn
            rw [List.getD_eq_getElem?_getD, List.getElem?_drop, Nat.add_zero, hy]; rfl
          have how : OwV wr 0 (.slice a (zs.drop i).length c) (zs.drop i) := by rw [hdl]; exact hct.ow
          obtain ⟨g', o, rfl⟩ : ∃ g' o, a = some ⟨g', o, none⟩ := by
            rcases how.2 with ⟨_, h5⟩ | ⟨g', o, cap, cur, e, _⟩
            · omega
            · cases e; exact ⟨g', o, rfl⟩
          obtain ⟨q0, q1, q2, q3, hgl, _⟩ := OwV.cells how (i := 0) (by omega)
          rw [hvn] at q0 q1 q2 q3
          simp only [Nat.zero_mul, Nat.add_zero] at q0 q1 q2 q3
          have hnp : (n : Int) > 0 := by omega
          have hnp2 : 0 < n := by omega
          have HN := hide_it hn
          clear hn hdl how
          cases hle : Op.bytesLess x.k.toList y.k.toList with
          | false =>
            have hor : (Op.bytesLess y.k.toList x.k.toList || y.k.toList == x.k.toList) = true := by rw [le_or, hle]; rfl
            gi_wp2_with fail
            refine inRound.region_quiet (by kernel_rfl) (by kernel_rfl) ?_
            repeat (gi_big_quiet_step (fail))
            refine wpQuietIn_nil ?_
            rintro _ ⟨nq, rfl⟩
            have hbd : Below wr.heap.size wr (wr.drewN nq) := below_drewN (Below.refl _ _) nq
            generalize wr.drewN nq = Wd at hbd ⊢
            have hstD := hst.below hbd
            have hAD := HU5.out.grow hA hbd
            have hzD := hbd.size
            have hsmD : ∀ j, Ex j ∨ K0v F B Kg j → Wd.heap[j]? = Wb.heap[j]? := fun j hj => by
              have h5 := HEXL.out j hj
              have h6 := hsm j hj
              rw [Array.getElem?_eq_getElem h5] at h6
              exact (hbd.block j (Array.getElem?_eq_some_iff.1 h6).1).trans (h6.trans (Array.getElem?_eq_getElem h5).symm)
            have d7 := (hbd.cell (p := ⟨b7, 0, none⟩) hct.x7.lt).trans c7
            have dY := (hbd.cell (p := ⟨W.heap.size, 0, none⟩) hct.yb.lt).trans cY
            have hl7 := Nat.lt_of_lt_of_le hct.x7.lt hzD
            have hlY := Nat.lt_of_lt_of_le hct.yb.lt hzD
            have e0 := (hbd.cell (p := ⟨g', o, none⟩) hgl).trans q0
            have e1 := (hbd.cell (p := ⟨g', o + 1, none⟩) hgl).trans q1
            have e2 := (hbd.cell (p := ⟨g', o + 2, none⟩) hgl).trans q2
            have e3 := (hbd.cell (p := ⟨g', o + 3, none⟩) hgl).trans q3
            have hgD := Nat.lt_of_lt_of_le hgl hzD
            have hgO : OwnO W.heap.size b6 b7 mc g g' := .inr (.inr (.inr (.inr (hct.gb g' rfl))))
            obtain ⟨hyv, hyM⟩ := hstD.ct.vl y (List.mem_of_getElem? hy)
            obtain ⟨hyr, hynil⟩ := hyv.b.rowN
            have hysz := (hMs y hyM)
            have hcl := fun z (hz : Below Wd.heap.size Wd z) => pairOf_any y z (hyr.below hz) (by omega) hynil
            have hfl2 : w5.heap.size + 1 < Wd.heap.size := by
              have h5 := hsmD (w5.heap.size + 1) (.inl (by rw [HEX.out]; exact .inr (.inl rfl)))
              rw [Array.getElem?_eq_getElem hl2b] at h5
              exact (Array.getElem?_eq_some_iff.1 h5).1
            have hOD : ∀ j, OwnO W.heap.size b6 b7 mc g j → j < Wd.heap.size := fun j hj => by have := (HOWN.out j hj).2; have := HZ5.out; omega
            have hED : ∀ j, Ex j ∨ K0v F B Kg j → j < Wd.heap.size := fun j hj => by
              have h5 := HEXL.out j hj
              have h6 := hsmD j hj
              rw [Array.getElem?_eq_getElem h5] at h6
              exact (Array.getElem?_eq_some_iff.1 h6).1
            have hne : ∀ j, OwnO W.heap.size b6 b7 mc g j → F j → False := fun j h5 h6 => by have := (HOWN.out j h5).1; have := hF j h6; omega
            have hyz : ∀ z1, Below Wd.heap.size Wd z1 → ∀ a9 c9, OwnB z1 Wd.heap.size (.slice a9 y.z.length c9) y.z → YieldAt Fence.wide (m - 1 - 1 - 1) Try.prog l #[.agg #[.string y.k, .slice a9 y.z.length c9]] z1 fun e W' => ∃ bb : Bool, e = .returned (.bool bb) ∧ (∀ j, OwnO W.heap.size b6 b7 mc g j → W'.heap[j]? = Wd.heap[j]?) ∧ (∀ j, Ex j ∨ K0v F B Kg j → W'.heap[j]? = Wb.heap[j]?) ∧ Wb.heap.size ≤ W'.heap.size ∧ (bb = true → ∀ a' n' c', a' = (if c = 1 then some ⟨g', o, none⟩ else (some (⟨g', o, none⟩ : Addr)).map (·.add 4)) → n' = n - 1 → c' = c - 1 → (∃ T X pre i a n c, OSt J KU (K0v F B Kg) Ex L (isW (saysV M)) us F M l W.heap.size b6 b7 (w5.heap.size + 1) mc g zs prei.length i i a n c T pre X (W'.setCell ⟨b7, 0, none⟩ (.slice a' n' c')) ∧ A (prei.length + 1) (W'.setCell ⟨b7, 0, none⟩ (.slice a' n' c')) ∧ (∀ j, Ex j ∨ K0v F B Kg j → (W'.setCell ⟨b7, 0, none⟩ (.slice a' n' c')).heap[j]? = Wb.heap[j]?) ∧ Wb.heap.size ≤ (W'.setCell ⟨b7, 0, none⟩ (.slice a' n' c')).heap.size) ∧ lenAt (W'.setCell ⟨b7, 0, none⟩ (.slice a' n' c')) b7 = n - 1) ∧ (bb = false → OX Jx L (w5.heap.size + 1) .ret Ti (prei ++ [x]) W') := fun z1 hz1 a9 c9 hv9 => by
              have hst1 := hstD.below hz1
              have hzz := hz1.size
              obtain ⟨hL1, hinv1⟩ := hst1.inv_put (x := ⟨y.k, a9, y.z, c9⟩) hy (t := prei.length + 1) rfl (.inl ⟨x, HUX.out, by unfold leK prU ky; rw [← bless, hle]; rfl, rfl⟩)
              have hX1 := hst.ch.size
              refine (yieldAt_wide _ (hst1.yield HY.out ⟨y.k, a9, y.z, c9⟩ (prei.length + 1) hL1 (HU5.out.grow hAD hz1) (Value.slice a9 y.z.length c9).ownBlock (.inr ⟨hv9.mono (by omega), rfl⟩) fun j hj => ?_)).mono ?_
              · have h5 := hv9.ge hj
                exact ⟨fun e => by have := hOD j e; omega, fun e => by have := hED j (.inl e); omega, by omega, by omega⟩
              · rintro e W' ⟨bb, T', rfl, r1, r2, r3, r4, r5, r6, r7, r8, r9, r10⟩
                have kO : ∀ j, OwnO W.heap.size b6 b7 mc g j → W'.heap[j]? = Wd.heap[j]? := fun j hj => (r2 j (.inl hj) (by have := hOD j hj; omega)).trans (hz1.block j (hOD j hj))
                have kE : ∀ j, Ex j ∨ K0v F B Kg j → W'.heap[j]? = Wb.heap[j]? := fun j hj => (r2 j (.inr (hj.imp id .inr)) (by have := hED j hj; omega)).trans ((hz1.block j (hED j hj)).trans (hsmD j hj))
                refine ⟨bb, rfl, kO, kE, by omega, fun hbb a' n' c' ea en ec => ?_, fun hbb => ?_⟩
                · have hnew := hst1.renew_put (by omega) (fun j hj => .inl hj) hi hne r1 r2 r3 r4 r5 r8 (r9 hbb) hinv1
                  have hA1 : A (prei.length + 1) z1 := HU5.out.grow hAD hz1
                  have hKI : ∀ j, KU j ∨ K0v F B Kg j → W'.heap[j]? = z1.heap[j]? := fun j hj => r2 j (.inr (.inr hj)) (by have := hUR j hj; have := hbW5.size; omega)
                  rw [ea, en, ec]
                  refine ⟨⟨T', W', _, _, _, _, _, hnew, HUK.out.stays (HUK.out.stays hA1 r1 hKI) (by simp) fun j hj => Below.heap_setCell _ _ _ _ (fun e => ?_), fun j hj => ?_, by simp; omega⟩, ?_⟩
                  · have e2 : j = b7 := e
                    have h5 := (HOWN.out b7 (.inr (.inr (.inl rfl)))).1
                    have := hUR j hj
                    omega
                  · rw [Below.heap_setCell _ _ _ _ (fun e => HOE.out b7 (.inr (.inr (.inl rfl))) (by have e2 : j = b7 := e; rw [← e2]; exact hj))]
                    exact kE j hj
                  · unfold lenAt
                    rw [hnew.ct.x7.cell]
                · have hs := hst1.says.1
                  refine ⟨rfl, T', W', pre ++ [⟨y.k, a9, y.z, c9⟩], r10 hbb, Chg.refl _ _, r3, fun j hj => ?_, fun j hj => .inl (r5 j (.inr (by rw [HEX.out]; exact .inr (.inr (.inr hj))))), by simp, ?_, ?_⟩
                  · rcases r8 j hj with h5 | h5
                    · rcases hj with h6 | h6 <;> omega
                    · exact .inr h5
                  · rw [List.length_append, List.length_singleton, List.take_add_one, hL1, List.map_append, ← hs]
                    unfold saysP
                    rw [List.map_append]; rfl
                  · rw [List.length_append, List.length_singleton, Nat.add_sub_cancel, List.length_append, List.length_singleton]
                    exact ⟨_, hL1⟩
            have HHYZ := hide_it hyz
            have HLW : Hid (lenAt wr b7 = n) := hide_it (by unfold lenAt; rw [c7])
            have h7D : Wd.heap[b7]? = some (.cells #[.slice (some ⟨g', o, none⟩) n c] 27 (0, 0)) := (hbd.block b7 hct.x7.lt).trans hct.x7
            clear hyz hL hyr hynil hysz hyM hyv hstD hAD hsmD hst hA hsm hct q0 q1 q2 q3 hor hle
            gi_wp2_with fail
            refine inRound.region_held (S := (fun w' => ∀ j, OwnO W.heap.size b6 b7 mc g j → w'.heap[j]? = Wd.heap[j]?)) (by kernel_rfl) ?_ (fun hHeld => ?_)
            · exact fun _ _ => rfl
            refine inRound.take_on (hF := fun _ => trivial) (hpl := by kernel_rfl) (i := 0) (v := ?_) rfl rfl (by kernel_rfl) (by kernel_rfl) (by kernel_rfl) (fun _ _ _ h => h) rfl ?_ hHeld ?_
            rotate_left
            · (intro wq hSq; have s7 := (World.cell?_of_block (w := Wd) (a := ⟨b7, 0, none⟩) (hSq b7 (.inr (.inr (.inl rfl))))).trans d7; have sY := (World.cell?_of_block (w := Wd) (a := ⟨W.heap.size, 0, none⟩) (hSq _ (.inl rfl))).trans dY; have s0 := (World.cell?_of_block (w := Wd) (a := ⟨g', o, none⟩) (hSq g' hgO)).trans e0; have s1 := (World.cell?_of_block (w := Wd) (a := ⟨g', o + 1, none⟩) (hSq g' hgO)).trans e1; have s2 := (World.cell?_of_block (w := Wd) (a := ⟨g', o + 2, none⟩) (hSq g' hgO)).trans e2; have s3 := (World.cell?_of_block (w := Wd) (a := ⟨g', o + 3, none⟩) (hSq g' hgO)).trans e3; go_simp <;> first | with_reducible rfl | rfl)
            simp only [Act.put, List.setIfInBounds_toArray, List.set_cons_zero, List.set_cons_succ]
            refine inRound.take_on (hF := fun _ => trivial) (hpl := by kernel_rfl) (i := 1) (v := ?_) rfl rfl (by kernel_rfl) (by kernel_rfl) (by kernel_rfl) (fun _ _ _ h => h) rfl ?_ hHeld ?_
            rotate_left
            · (intro wq hSq; have s7 := (World.cell?_of_block (w := Wd) (a := ⟨b7, 0, none⟩) (hSq b7 (.inr (.inr (.inl rfl))))).trans d7; have sY := (World.cell?_of_block (w := Wd) (a := ⟨W.heap.size, 0, none⟩) (hSq _ (.inl rfl))).trans dY; have s0 := (World.cell?_of_block (w := Wd) (a := ⟨g', o, none⟩) (hSq g' hgO)).trans e0; have s1 := (World.cell?_of_block (w := Wd) (a := ⟨g', o + 1, none⟩) (hSq g' hgO)).trans e1; have s2 := (World.cell?_of_block (w := Wd) (a := ⟨g', o + 2, none⟩) (hSq g' hgO)).trans e2; have s3 := (World.cell?_of_block (w := Wd) (a := ⟨g', o + 3, none⟩) (hSq g' hgO)).trans e3; go_simp <;> first | with_reducible rfl | rfl)
            simp only [Act.put, List.setIfInBounds_toArray, List.set_cons_zero, List.set_cons_succ]
            refine inRound.take_on (hF := fun _ => trivial) (hpl := by kernel_rfl) (i := 2) (v := ?_) rfl rfl (by kernel_rfl) (by kernel_rfl) (by kernel_rfl) (fun _ _ _ h => h) rfl ?_ hHeld ?_
            rotate_left
            · (intro wq hSq; have s7 := (World.cell?_of_block (w := Wd) (a := ⟨b7, 0, none⟩) (hSq b7 (.inr (.inr (.inl rfl))))).trans d7; have sY := (World.cell?_of_block (w := Wd) (a := ⟨W.heap.size, 0, none⟩) (hSq _ (.inl rfl))).trans dY; have s0 := (World.cell?_of_block (w := Wd) (a := ⟨g', o, none⟩) (hSq g' hgO)).trans e0; have s1 := (World.cell?_of_block (w := Wd) (a := ⟨g', o + 1, none⟩) (hSq g' hgO)).trans e1; have s2 := (World.cell?_of_block (w := Wd) (a := ⟨g', o + 2, none⟩) (hSq g' hgO)).trans e2; have s3 := (World.cell?_of_block (w := Wd) (a := ⟨g', o + 3, none⟩) (hSq g' hgO)).trans e3; go_simp <;> first | with_reducible rfl | rfl)
            simp only [Act.put, List.setIfInBounds_toArray, List.set_cons_zero, List.set_cons_succ]
            refine inRound.take_on (hF := fun _ => trivial) (hpl := by kernel_rfl) (i := 3) (v := ?_) rfl rfl (by kernel_rfl) (by kernel_rfl) (by kernel_rfl) (fun _ _ _ h => h) rfl ?_ hHeld ?_
            rotate_left
            · (intro wq hSq; have s7 := (World.cell?_of_block (w := Wd) (a := ⟨b7, 0, none⟩) (hSq b7 (.inr (.inr (.inl rfl))))).trans d7; have sY := (World.cell?_of_block (w := Wd) (a := ⟨W.heap.size, 0, none⟩) (hSq _ (.inl rfl))).trans dY; have s0 := (World.cell?_of_block (w := Wd) (a := ⟨g', o, none⟩) (hSq g' hgO)).trans e0; have s1 := (World.cell?_of_block (w := Wd) (a := ⟨g', o + 1, none⟩) (hSq g' hgO)).trans e1; have s2 := (World.cell?_of_block (w := Wd) (a := ⟨g', o + 2, none⟩) (hSq g' hgO)).trans e2; have s3 := (World.cell?_of_block (w := Wd) (a := ⟨g', o + 3, none⟩) (hSq g' hgO)).trans e3; go_simp <;> first | with_reducible rfl | rfl)
            simp only [Act.put, List.setIfInBounds_toArray, List.set_cons_zero, List.set_cons_succ]
            refine inRound.take_one (hF := fun _ => trivial) (i := 4) rfl (by kernel_rfl) (fun K hK => ?_)
            go_simp
            ((first | refine ⟨trivial, (fun h => by cases h), (callsIn_wide.2 (hcl _ (Below.refl _ _).drew)).mono ?_⟩ | refine ⟨(fun h => by cases h), (callsIn_wide.2 (hcl _ (Below.refl _ _).drew)).mono ?_⟩ | refine ⟨trivial, (callsIn_wide.2 (hcl _ (Below.refl _ _).drew)).mono ?_⟩); rintro e z1 ⟨⟨a9, c9, rfl, hv9⟩, hz1⟩; have hy1 : Below Wd.heap.size Wd z1 := (Below.refl _ _).drew.trans hz1; obtain ⟨fn, tmps, assign, body, hyr, hRn⟩ := HHYZ.out z1 hy1 a9 c9 hv9; unfold prV; clear hv9)
            try gi_wp2_with fail
            refine hK.out _ _ ?_ (fun hHeld => ?_)
            · exact fun j hj => hy1.block j (hOD j hj)
            clear hK K
            try simp only [Act.put, List.setIfInBounds_toArray, List.set_cons_zero, List.set_cons_succ]
            refine inRound.take_one (hF := fun _ => trivial) (i := 5) rfl (by kernel_rfl) (fun K hK => ?_)
            go_simp
            ((first | refine ⟨trivial, (fun h => by cases h), (roundIn_in (w5.heap.size + 1) hRn).mono ?_⟩ | refine ⟨(fun h => by cases h), (roundIn_in (w5.heap.size + 1) hRn).mono ?_⟩ | refine (roundIn_in (w5.heap.size + 1) hRn).mono ?_); rintro e2 z2 ⟨bb, rfl, kO, kE, kS, hT, hF2⟩; clear hRn hyr)
            try gi_wp2_with fail
            refine hK.out _ _ ?_ (fun hHeld => ?_)
            · exact kO
            clear hK K
            try simp only [Act.put, List.setIfInBounds_toArray, List.set_cons_zero, List.set_cons_succ]
            refine inRound.take_on (hF := fun _ => trivial) (hpl := by kernel_rfl) (i := 6) (v := ?_) rfl rfl (by kernel_rfl) (by kernel_rfl) (by kernel_rfl) (fun _ _ _ h => h) rfl ?_ hHeld ?_
            rotate_left
            · (intro wq hSq; have s7 := (World.cell?_of_block (w := Wd) (a := ⟨b7, 0, none⟩) (hSq b7 (.inr (.inr (.inl rfl))))).trans d7; have sY := (World.cell?_of_block (w := Wd) (a := ⟨W.heap.size, 0, none⟩) (hSq _ (.inl rfl))).trans dY; have s0 := (World.cell?_of_block (w := Wd) (a := ⟨g', o, none⟩) (hSq g' hgO)).trans e0; have s1 := (World.cell?_of_block (w := Wd) (a := ⟨g', o + 1, none⟩) (hSq g' hgO)).trans e1; have s2 := (World.cell?_of_block (w := Wd) (a := ⟨g', o + 2, none⟩) (hSq g' hgO)).trans e2; have s3 := (World.cell?_of_block (w := Wd) (a := ⟨g', o + 3, none⟩) (hSq g' hgO)).trans e3; go_simp <;> first | with_reducible rfl | rfl)
            simp only [Act.put, List.setIfInBounds_toArray, List.set_cons_zero, List.set_cons_succ]
            refine inRound.held_done (by kernel_rfl) ?_ _
            cases bb with
            | true =>
              have k7 := (kO b7 (.inr (.inr (.inl rfl)))).trans (h7D : Wd.heap[b7]? = _)
              have g7 := cell_of_row _ _ 0 _ _ _ k7
              have f7 := frozen_of_row _ _ 0 _ _ k7
              clear k7
              by_cases hc1 : c = 1
              · subst hc1
                obtain ⟨hR, hLn⟩ := hT rfl (some ⟨g', o, none⟩) (n - 1) 0 (by rw [if_pos rfl]) rfl rfl
                have HR := hide_it hR
                have HLN := hide_it hLn
                clear hR hLn hT hF2 kO kE
                gi_wp2
                go_roundw
                case rel => exact HR.out
                case measure => rw [HLN.out, HLW.out]; omega
              · obtain ⟨hR, hLn⟩ := hT rfl (some ⟨g', o + 4, none⟩) (n - 1) (c - 1) (by rw [if_neg hc1]; rfl) rfl rfl
                have HR := hide_it hR
                have HLN := hide_it hLn
                clear hR hLn hT hF2 kO kE
                gi_wp2
                go_roundw
                case rel => exact HR.out
                case measure => rw [HLN.out, HLW.out]; omega
            | false =>
              have HE := hide_it (hF2 rfl)
              have HK := hide_it kE
              clear hT hF2 kO kE
              gi_wp2
              exact ⟨⟨HK.out _ (.inl (by rw [HEX.out]; exact .inr (.inl rfl))), HK.out _ (.inl (by rw [HEX.out]; exact .inr (.inr (.inl rfl))))⟩, HE.out, kS, fun j o hj h5 => (HK.out j (hj.imp (fun e => by rw [HEX.out]; exact .inr (.inr (.inr e))) id)).trans h5⟩
          | true =>
            have hor : (Op.bytesLess y.k.toList x.k.toList || y.k.toList == x.k.toList) = false := by rw [le_or, hle]; rfl
            gi_wp2_with fail
            refine inRound.region_quiet (by kernel_rfl) (by kernel_rfl) ?_
            repeat (gi_big_quiet_step (fail))
            refine wpQuietIn_nil ?_
            rintro _ ⟨nq, rfl⟩
            have hbd : Below wr.heap.size wr (wr.drewN nq) := below_drewN (Below.refl _ _) nq
            generalize wr.drewN nq = Wd at hbd ⊢
            have hstD := hst.below hbd
            have hAD := HU5.out.grow hA hbd
            have hzD := hbd.size
            have hsmD : ∀ j, Ex j ∨ K0v F B Kg j → Wd.heap[j]? = Wb.heap[j]? := fun j hj => by
              have h5 := HEXL.out j hj
              exact (hbd.block j (by omega)).trans (hsm j hj)
            have HFIN := hide_it (show (∃ T X pre i a n c, OSt J KU (K0v F B Kg) Ex L (isW (saysV M)) us F M l W.heap.size b6 b7 (w5.heap.size + 1) mc g zs prei.length i i a n c T pre X Wd ∧ A (prei.length + 1) Wd ∧ (∀ j, Ex j ∨ K0v F B Kg j → Wd.heap[j]? = Wb.heap[j]?) ∧ Wb.heap.size ≤ Wd.heap.size ∧ ∀ y, zs[i]? = some y → leK (ky y) (prU x).1 = false) from ⟨T, X, pre, i, _, n, c, hstD, hAD, hsmD, by omega, fun y' hy' => by rw [hy] at hy'; cases hy'; unfold leK prU ky; rw [← bless, hle]; rfl⟩)
            clear hst hA hsm hct hstD hAD hsmD q0 q1 q2 q3 hor hle
            gi_wp2_with fail
            exact HAFTER.out _ _ _ _ _ _ _ _ _ _ _ _ _ _ _ _ _ _ _ _ _ _ HFIN.out
        · obtain rfl : n = 0 := by omega
          clear hn
          gi_wp2_with fail
          refine inRound.region_quiet (by kernel_rfl) (by kernel_rfl) ?_
          repeat (gi_big_quiet_step (fail))
          refine wpQuietIn_nil ?_
          rintro _ ⟨nq, rfl⟩
          have hbd : Below wr.heap.size wr (wr.drewN nq) := below_drewN (Below.refl _ _) nq
          generalize wr.drewN nq = Wd at hbd ⊢
          have hstD := hst.below hbd
          have hAD := HU5.out.grow hA hbd
          have hzD := hbd.size
          have hsmD : ∀ j, Ex j ∨ K0v F B Kg j → Wd.heap[j]? = Wb.heap[j]? := fun j hj => by
            have h5 := HEXL.out j hj
            exact (hbd.block j (by omega)).trans (hsm j hj)
          have HFIN := hide_it (show (∃ T X pre i a n c, OSt J KU (K0v F B Kg) Ex L (isW (saysV M)) us F M l W.heap.size b6 b7 (w5.heap.size + 1) mc g zs prei.length i i a n c T pre X Wd ∧ A (prei.length + 1) Wd ∧ (∀ j, Ex j ∨ K0v F B Kg j → Wd.heap[j]? = Wb.heap[j]?) ∧ Wb.heap.size ≤ Wd.heap.size ∧ ∀ y, zs[i]? = some y → leK (ky y) (prU x).1 = false) from ⟨T, X, pre, i, _, 0, c, hstD, hAD, hsmD, by omega, fun y' hy' => by have := (List.getElem?_eq_some_iff.1 hy').1; omega⟩)
          clear hst hA hsm hct hstD hAD hsmD
          gi_wp2_with fail
          exact HAFTER.out _ _ _ _ _ _ _ _ _ _ _ _ _ _ _ _ _ _ _ _ _ _ HFIN.out
    case done =>
      subst hact
      rintro D Ti xs W' hD hDD ⟨rfl, hA⟩ hTb hTD ⟨T, X, pre, i, a', n', c', hst0, h2, h3, h4⟩ hK
      have hDl := (Array.getElem?_eq_some_iff.1 hK).1
      have hDT : tillT T X W' D := by
        rcases hst0.l2 D (.inr (by omega)) with h5 | h5
        · exact .inr ⟨h5, hDl⟩
        · exact .inl h5
      have hst1 : OSt J KU (K0v F B Kg) (fun j => j = D) L (isW (saysV M)) xs F M l W.heap.size b6 b7 (w5.heap.size + 1) mc g zs xs.length i (i + 0) a' n' c' T pre X W' :=
        ⟨hst0.j, hst0.ch, hst0.b, hst0.k0, hst0.kr, fun j hj => by
          rcases hj with hj | hj
          · exact hst0.own j (.inl hj)
          · rw [hj]; exact hDT, hst0.l2, hst0.ct, hst0.ln, hst0.inv⟩
      have hct := hst0.ct
      have c7 := hct.x7.cell
      have hnl : n' ≤ 4000000000000 := by
        have h5 := congrArg List.length hp.sy
        unfold saysV putsW at h5
        rw [List.length_map] at h5
        have h6 := List.length_filter_le (fun e : List UInt8 × Ver => !e.2.d && inR fr.data.toList to.data.toList e.1) (saysV M)
        have h7 : (saysV M).length = M.length := by unfold saysV; simp
        have := hst0.ln
        unfold saysV at h6 h7
        omega
      have hnz := hst0.ln
      have HNZ := hide_it hnz
      have HST1 := hide_it (show ∃ T X pre, OSt J KU (K0v F B Kg) (fun j => j = D) L (isW (saysV M)) xs F M l W.heap.size b6 b7 (w5.heap.size + 1) mc g zs xs.length i (i + 0) a' n' c' T pre X W' ∧ A xs.length W' ∧ W'.heap[D]? = some (.deferred (some [])) ∧ w5.heap.size + 1 < W'.heap.size from ⟨T, X, pre, hst1, hA, hK, by omega⟩)
      have hDn : ∀ j, OwnO W.heap.size b6 b7 mc g j → j ≠ D := fun j hj => by have := (HOWN.out j hj).2; have := HZ5.out; omega
      have HDN := hide_it hDn
      have HDF : Hid (∀ j, F j → j ≠ D) := hide_it fun j hj => by have := hF j hj; have := hbW5.size; omega
      have HDE := hide_it hD
      clear hst0 hst1 hA hK hDT hct hnz h2 h3 h4 hTb hTD hDn hl2o hl2F hus hD hL hDl
      gi_wp2_with fail
      gi_loopw [61] (fun t61 wl => ∃ j : Nat, t61 = .int .i64 (j : Int) ∧ j ≤ n' ∧ Hid (∃ T X pre, OSt J KU (K0v F B Kg) (fun j => j = D) L (isW (saysV M)) xs F M l W.heap.size b6 b7 (w5.heap.size + 1) mc g zs xs.length i (i + j) a' n' c' T pre X wl ∧ A xs.length wl ∧ wl.heap[D]? = some (.deferred (some [])) ∧ w5.heap.size + 1 < wl.heap.size)) (fun t61 _ => n' - (intOf t61).toNat)
      case atStart => exact ⟨0, rfl, by omega, HST1⟩
      case round =>
        clear HST1 c7
        obtain ⟨j, rfl, hjn, HL⟩ := hrel
        obtain ⟨T, X, pre, hst, hA, hK, hlw⟩ := HL.out
        clear HL
        by_cases hlt : j < n'
        · have hji : (j : Int) < (n' : Int) := by omega
          have hw1 : IntKind.i64.wrap ((j : Int) + 1) = (j : Int) + 1 := i64_in (by omega) (by omega)
          have hnz := HNZ.out
          have hct := hst.ct
          obtain ⟨y, hy⟩ : ∃ y, zs[i + j]? = some y := ⟨_, List.getElem?_eq_getElem (by omega)⟩
          have hdl : (zs.drop i).length = n' := by rw [List.length_drop]; exact hnz.symm
          have hvn : vn (zs.drop i) j = y := by
            unfold vn
            rw [List.getD_eq_getElem?_getD, List.getElem?_drop, hy]; rfl
          have how : OwV wr 0 (.slice a' (zs.drop i).length c') (zs.drop i) := by rw [hdl]; exact hct.ow
          obtain ⟨g', o, rfl⟩ : ∃ g' o, a' = some ⟨g', o, none⟩ := by
            rcases how.2 with ⟨_, h5⟩ | ⟨g', o, cap, cur, e, _⟩
            · omega
            · cases e; exact ⟨g', o, rfl⟩
          obtain ⟨q0, q1, q2, q3, hgl, _⟩ := OwV.cells how (i := j) (by omega)
          rw [hvn] at q0 q1 q2 q3
          have cY := hct.yb.cell
          have hlY := hct.yb.lt
          obtain ⟨Wd, hWd⟩ : ∃ Wd, Wd = wr.alloc (.cells #[.string y.k, .int .i64 y.n, .slice y.a y.z.length y.c, .bool y.d] 41) := ⟨_, rfl⟩
          have hbd : Below wr.heap.size wr Wd := by rw [hWd]; exact (Below.refl _ _).alloc (Nat.le_refl _) _
          have kd : Wd.heap[wr.heap.size]? = some (.cells #[.string y.k, .int .i64 y.n, .slice y.a y.z.length y.c, .bool y.d] 41 (0, 0)) := by rw [hWd]; exact heap_alloc_new wr _
          have hzD : Wd.heap.size = wr.heap.size + 1 := by rw [hWd]; simp
          have hstD := hst.below hbd
          have hAD := HU5.out.grow hA hbd
          have hKD := (hbd.block D (Array.getElem?_eq_some_iff.1 hK).1).trans hK
          have hDl := (Array.getElem?_eq_some_iff.1 hKD).1
          have dY := (hbd.cell (p := ⟨W.heap.size, 0, none⟩) hlY).trans cY
          have e0 := cell_of_row _ _ 0 _ _ _ kd
          have e1 := cell_of_row _ _ 1 _ _ _ kd
          have e2 := cell_of_row _ _ 2 _ _ _ kd
          have e3 := cell_of_row _ _ 3 _ _ _ kd
          obtain ⟨hyv, hyM⟩ := hstD.ct.vl y (List.mem_of_getElem? hy)
          obtain ⟨hyr, hynil⟩ := hyv.b.rowN
          have hysz := (hMs y hyM)
          have hcl := fun z (hz : Below Wd.heap.size Wd z) => pairOf_any y z (hyr.below hz) (by omega) hynil
          have hOD : ∀ j, OwnO W.heap.size b6 b7 mc g j → j < Wd.heap.size := fun j hj => by
            rcases hstD.own j (.inl hj) with h5 | h5
            · have := hstD.b j h5; have := hstD.ch.size; omega
            · exact h5.2
          have hyz : ∀ z1, Below Wd.heap.size Wd z1 → ∀ a9 c9, OwnB z1 Wd.heap.size (.slice a9 y.z.length c9) y.z → YieldAt Fence.wide (m - 1) Try.prog l #[.agg #[.string y.k, .slice a9 y.z.length c9]] z1 fun e W' => ∃ bb : Bool, e = .returned (.bool bb) ∧ (∀ j, OwnO W.heap.size b6 b7 mc g j ∨ j = wr.heap.size → W'.heap[j]? = Wd.heap[j]?) ∧ (bb = true → ∃ T X pre, OSt J KU (K0v F B Kg) (fun j => j = D) L (isW (saysV M)) xs F M l W.heap.size b6 b7 (w5.heap.size + 1) mc g zs xs.length i (i + (j + 1)) (some ⟨g', o, none⟩) n' c' T pre X W' ∧ A xs.length W' ∧ W'.heap[D]? = some (.deferred (some [])) ∧ w5.heap.size + 1 < W'.heap.size) ∧ (bb = false → W'.heap[D]? = some (.deferred (some [])) ∧ A xs.length W' ∧ OX Jx L (w5.heap.size + 1) .ret (fun _ => False) xs W') := fun z1 hz1 a9 c9 hv9 => by
            have hst1 := (hstD.less (Ex' := fun j => j = D ∨ j = wr.heap.size) (fun j hj => by
              rcases hj with hj | hj
              · exact hstD.own j (.inr hj)
              · rw [hj]; exact .inr ⟨hst.ch.size, by omega⟩)).below hz1
            have hzz := hz1.size
            obtain ⟨hL1, hinv1⟩ := hst1.inv_put (x := ⟨y.k, a9, y.z, c9⟩) hy (t := xs.length) rfl (.inr ⟨Nat.le_refl _, rfl⟩)
            have hX1 := hst.ch.size
            have hDE := HDE.out
            refine (hst1.yield HY.out ⟨y.k, a9, y.z, c9⟩ xs.length hL1 (HU5.out.grow hAD hz1) (Value.slice a9 y.z.length c9).ownBlock (.inr ⟨hv9.mono (by omega), rfl⟩) fun j hj => ?_).mono ?_
            · have h5 := hv9.ge hj
              obtain ⟨cur, h6⟩ := hv9.typed hj
              exact ⟨fun e => by have := hOD j e; omega, fun e => by rcases e with e | e <;> omega, by omega, by omega⟩
            · rintro e W' ⟨bb, T', rfl, r1, r2, r3, r4, r5, r6, r7, r8, r9, r10⟩
              have kO : ∀ j, OwnO W.heap.size b6 b7 mc g j ∨ j = wr.heap.size → W'.heap[j]? = Wd.heap[j]? := fun j hj => by
                rcases hj with hj | hj
                · exact (r2 j (.inl hj) (by have := hOD j hj; omega)).trans (hz1.block j (hOD j hj))
                · exact (r2 j (.inr (.inl (.inr hj))) (by omega)).trans (hz1.block j (by omega))
              have kD : W'.heap[D]? = some (.deferred (some [])) := (r2 D (.inr (.inl (.inl rfl))) (by omega)).trans ((hz1.block D hDl).trans hKD)
              have hA' : A xs.length W' := HUK.out.stays (HU5.out.grow hAD hz1) r1 fun j hj => r2 j (.inr (.inr hj)) (by have := hUR j hj; have := hbW5.size; omega)
              refine ⟨bb, rfl, kO, fun hbb => ⟨T', W', pre ++ [⟨y.k, a9, y.z, c9⟩], ?_, hA', kD, by omega⟩, fun hbb => ⟨kD, hA', rfl, T', W', pre ++ [⟨y.k, a9, y.z, c9⟩], r10 hbb, Chg.refl _ _, r3, fun j hj => ?_, (fun j hj => hj.elim), by simp, ?_, ?_⟩⟩
              · exact (hst1.renew (by omega) (fun j hj => .inl hj) r1 r2 r3 r4 r5 r8 (r9 hbb) hinv1).less fun j hj => .inl (r5 j (.inr (.inl hj)))
              · rcases r8 j hj with h5 | h5
                · rcases hj with h6 | h6 <;> omega
                · exact .inr h5
              · rw [List.length_append, List.length_singleton, List.take_add_one, hL1, List.map_append, ← hst1.says.1]
                unfold saysP
                rw [List.map_append]; rfl
              · rw [List.length_append, List.length_singleton, Nat.add_sub_cancel]
                exact ⟨_, hL1⟩
          have HHYZ := hide_it hyz
          clear hyz hyr hynil hysz hyM hyv hstD hAD hst hA hK hct hy how hdl hvn hnz kd
          gi_wp2_with fail
          rw [← hWd]
          clear hWd
          rename_i K12 hK12
          refine wpIn_mono (Q := Exit.then K12 fun _ _ _ => False) ?_ (fun e a w h => by cases e <;> first | exact h | exact h.elim)
          refine inRound.region_held (S := (fun w' => ∀ j, OwnO W.heap.size b6 b7 mc g j ∨ j = wr.heap.size → w'.heap[j]? = Wd.heap[j]?)) (by kernel_rfl) ?_ (fun hHeld => ?_)
          · exact fun _ _ => rfl
          refine inRound.take_on (hF := fun _ => trivial) (hpl := by kernel_rfl) (i := 0) (v := ?_) rfl rfl (by kernel_rfl) (by kernel_rfl) (by kernel_rfl) (fun _ _ _ h => h) rfl ?_ hHeld ?_
          rotate_left
          · (intro wq hSq; have sY := (World.cell?_of_block (w := Wd) (a := ⟨W.heap.size, 0, none⟩) (hSq _ (.inl (.inl rfl)))).trans dY; have s0 := (World.cell?_of_block (w := Wd) (a := ⟨wr.heap.size, 0, none⟩) (hSq _ (.inr rfl))).trans e0; have s1 := (World.cell?_of_block (w := Wd) (a := ⟨wr.heap.size, 1, none⟩) (hSq _ (.inr rfl))).trans e1; have s2 := (World.cell?_of_block (w := Wd) (a := ⟨wr.heap.size, 2, none⟩) (hSq _ (.inr rfl))).trans e2; have s3 := (World.cell?_of_block (w := Wd) (a := ⟨wr.heap.size, 3, none⟩) (hSq _ (.inr rfl))).trans e3; go_simp <;> first | with_reducible rfl | rfl)
          simp only [Act.put, List.setIfInBounds_toArray, List.set_cons_zero, List.set_cons_succ]
          refine inRound.take_on (hF := fun _ => trivial) (hpl := by kernel_rfl) (i := 1) (v := ?_) rfl rfl (by kernel_rfl) (by kernel_rfl) (by kernel_rfl) (fun _ _ _ h => h) rfl ?_ hHeld ?_
          rotate_left
          · (intro wq hSq; have sY := (World.cell?_of_block (w := Wd) (a := ⟨W.heap.size, 0, none⟩) (hSq _ (.inl (.inl rfl)))).trans dY; have s0 := (World.cell?_of_block (w := Wd) (a := ⟨wr.heap.size, 0, none⟩) (hSq _ (.inr rfl))).trans e0; have s1 := (World.cell?_of_block (w := Wd) (a := ⟨wr.heap.size, 1, none⟩) (hSq _ (.inr rfl))).trans e1; have s2 := (World.cell?_of_block (w := Wd) (a := ⟨wr.heap.size, 2, none⟩) (hSq _ (.inr rfl))).trans e2; have s3 := (World.cell?_of_block (w := Wd) (a := ⟨wr.heap.size, 3, none⟩) (hSq _ (.inr rfl))).trans e3; go_simp <;> first | with_reducible rfl | rfl)
          simp only [Act.put, List.setIfInBounds_toArray, List.set_cons_zero, List.set_cons_succ]
          refine inRound.take_one (hF := fun _ => trivial) (i := 2) rfl (by kernel_rfl) (fun K hK => ?_)
          go_simp
          ((first | refine ⟨trivial, (fun h => by cases h), (callsIn_wide.2 (hcl _ (Below.refl _ _).drew)).mono ?_⟩ | refine ⟨(fun h => by cases h), (callsIn_wide.2 (hcl _ (Below.refl _ _).drew)).mono ?_⟩ | refine ⟨trivial, (callsIn_wide.2 (hcl _ (Below.refl _ _).drew)).mono ?_⟩); rintro e z1 ⟨⟨a9, c9, rfl, hv9⟩, hz1⟩; have hy1 : Below Wd.heap.size Wd z1 := (Below.refl _ _).drew.trans hz1; obtain ⟨fn, tmps, assign, body, hyr, hRn⟩ := HHYZ.out z1 hy1 a9 c9 hv9; unfold prV; clear hv9)
          try gi_wp2_with fail
          refine hK.out _ _ ?_ (fun hHeld => ?_)
          · exact fun j hj => hy1.block j (by rcases hj with hj | hj; exact hOD j hj; omega)
          clear hK K
          try simp only [Act.put, List.setIfInBounds_toArray, List.set_cons_zero, List.set_cons_succ]
          refine inRound.take_one (hF := fun _ => trivial) (i := 3) rfl (by kernel_rfl) (fun K hK => ?_)
          go_simp
          ((first | refine ⟨trivial, (fun h => by cases h), hRn.mono ?_⟩ | refine ⟨(fun h => by cases h), hRn.mono ?_⟩ | refine hRn.mono ?_); rintro e2 z2 ⟨bb, rfl, kO, hT, hF2⟩; clear hRn hyr)
          try gi_wp2_with fail
          refine hK.out _ _ ?_ (fun hHeld => ?_)
          · exact kO
          clear hK K
          try simp only [Act.put, List.setIfInBounds_toArray, List.set_cons_zero, List.set_cons_succ]
          refine inRound.take_on (hF := fun _ => trivial) (hpl := by kernel_rfl) (i := 4) (v := ?_) rfl rfl (by kernel_rfl) (by kernel_rfl) (by kernel_rfl) (fun _ _ _ h => h) rfl ?_ hHeld ?_
          rotate_left
          · (intro wq hSq; have sY := (World.cell?_of_block (w := Wd) (a := ⟨W.heap.size, 0, none⟩) (hSq _ (.inl (.inl rfl)))).trans dY; have s0 := (World.cell?_of_block (w := Wd) (a := ⟨wr.heap.size, 0, none⟩) (hSq _ (.inr rfl))).trans e0; have s1 := (World.cell?_of_block (w := Wd) (a := ⟨wr.heap.size, 1, none⟩) (hSq _ (.inr rfl))).trans e1; have s2 := (World.cell?_of_block (w := Wd) (a := ⟨wr.heap.size, 2, none⟩) (hSq _ (.inr rfl))).trans e2; have s3 := (World.cell?_of_block (w := Wd) (a := ⟨wr.heap.size, 3, none⟩) (hSq _ (.inr rfl))).trans e3; go_simp <;> first | with_reducible rfl | rfl)
          simp only [Act.put, List.setIfInBounds_toArray, List.set_cons_zero, List.set_cons_succ]
          refine inRound.held_done (by kernel_rfl) ?_ _
          refine hK12 _ _ ?_
          cases bb with
          | true =>
            have HT := hide_it (hT rfl)
            clear hT hF2 kO
            gi_wp2
            go_roundw
            case rel => exact ⟨j + 1, by go_num, by omega, HT.out⟩
            case measure => simp [intOf]; omega
          | false =>
            obtain ⟨kD2, hA2, _, T, X, pre, hox⟩ := hF2 rfl
            have HOX := hide_it hox
            have HA2 := hide_it hA2
            have HKD := hide_it kD2
            clear hT hF2 kO hox hA2 kD2
            gi_wp2
            refine ⟨by simp, .inl ⟨_, _, rfl, run_takeDeferred (w := z2) HKD.out, ?_⟩⟩
            obtain ⟨y2, hy2⟩ := HOX.out.at_
            refine ⟨.tuple #[], results_none rfl _ _ _, ⟨_, rfl⟩, .inr ⟨T, pre, X, HOX.out.b, ⟨xs.length, y2, HOX.out.ne, HOX.out.says, hy2, HUK.out.stays HA2.out (by simp) fun j hj => World.putObj_heap_other (fun e => by have := hUR j hj; have := hbW5.size; have := HDE.out; omega)⟩, HOX.out.j, HOX.out.ch.trans (chg_put D _) fun j _ e => ?_⟩⟩
            have hDE := HDE.out
            rcases HOX.out.l2 j (.inr (by omega)) with h5 | h5
            · omega
            · exact h5
        · have hn1 : ¬ (j : Int) < (n' : Int) := by omega
          have hnz := HNZ.out
          obtain ⟨hs1, hs2⟩ := hst.says
          have hjz : zs.drop (i + j) = [] := List.drop_of_length_le (by omega)
          rw [hjz, show (xs.map prU).drop xs.length = [] from List.drop_of_length_le (by simp)] at hs2
          have hLl : L.length ≤ pre.length := by
            have h5 := congrArg List.length hs2
            rw [List.length_drop] at h5
            have h6 : (ovT (isW (saysV M)) xs.length (List.map prX []) []).length = 0 := rfl
            omega
          rw [List.take_of_length_le hLl] at hs1
          have HST := hide_it hst
          have HS := hide_it hs1
          have HA2 := hide_it hA
          have HKD := hide_it hK
          clear hst hs1 hs2 hjz hLl hA hK hnz
          gi_wp2
          refine ⟨by simp, .inl ⟨_, _, rfl, run_takeDeferred (w := wr) HKD.out, ?_⟩⟩
          refine ⟨.tuple #[], results_none rfl _ _ _, ⟨_, rfl⟩, .inl ⟨T, pre, X, HST.out.b, ⟨HS.out, HUK.out.stays HA2.out (by simp) fun j hj => World.putObj_heap_other (fun e => by have := hUR j hj; have := hbW5.size; have := HDE.out; omega)⟩, HST.out.j, HST.out.ch.trans (chg_put D _) fun j _ e => ?_⟩⟩
          have hDE := HDE.out
          rcases HST.out.l2 j (.inr (by omega)) with h5 | h5
          · omega
          · exact h5
    case stop =>
      subst hact
      rintro D c' Ti pre' W' hD ⟨_, _, hA⟩ _ _ ⟨rfl, T, X, pre, hox⟩ hK
      have HOX := hide_it hox
      have HA := hide_it hA
      have HDE := hide_it hD
      clear hox hA hl2o hl2F hD hL
      gi_wp2
      refine ⟨by simp, .inl ⟨_, _, rfl, run_takeDeferred (w := W') hK, ?_⟩⟩
      obtain ⟨y, hy⟩ := HOX.out.at_
      have hDl := (Array.getElem?_eq_some_iff.1 hK).1
      refine ⟨.tuple #[], results_none rfl _ _ _, ⟨_, rfl⟩, .inr ⟨T, pre, X, HOX.out.b, ⟨pre'.length, y, HOX.out.ne, HOX.out.says, hy, HUK.out.stays HA.out (by simp) fun j hj => World.putObj_heap_other (fun e => by have := hUR j hj; have := hbW5.size; have := HDE.out; omega)⟩, HOX.out.j, HOX.out.ch.trans (chg_put D _) fun j _ e => ?_⟩⟩
      have hDE := HDE.out
      rcases HOX.out.l2 j (.inr (by omega)) with h5 | h5
      · omega
      · exact h5
  have HREST := hide_it hrest
  clear hrest hK1 hY h0 hU hU1 hS hO hS1 hO1 hvf hW1 hyb hcp0
  refine wpIn_mono (Q := Exit.then K1 fun _ _ _ => False) ?_ (fun e a w h => by cases e <;> first | exact h | exact h.elim)
  have HZ1 := hide_it hz1
  clear hz1
  have hM := PMk.start W1 F M fr.data.toList to.data.toList
  refine inRound.region_held (S := (fun w' => Below W1.heap.size W1 w')) (by kernel_rfl) ?_ (fun hHeld => ?_)
  · exact (Below.refl _ _).drew
  refine inRound.take_on (hF := fun _ => trivial) (hpl := by kernel_rfl) (i := 0) (v := ?_) rfl rfl (by kernel_rfl) (by kernel_rfl) (by kernel_rfl) (fun _ _ _ h => h) rfl ?_ hHeld ?_
  rotate_left
  · (intro wq hSq; have s0 := (hSq.cell (p := ⟨B, 0, none⟩) hl0).trans c0; have s1 := (hSq.cell (p := ⟨B + 1, 0, none⟩) hl1).trans c1; have s2 := (hSq.cell (p := ⟨B + 2, 0, none⟩) hl2).trans c2; go_simp <;> first | with_reducible rfl | rfl)
  simp only [Act.put, List.setIfInBounds_toArray, List.set_cons_zero, List.set_cons_succ]
  refine inRound.take_on (hF := fun _ => trivial) (hpl := by kernel_rfl) (i := 3) (v := ?_) rfl rfl (by kernel_rfl) (by kernel_rfl) (by kernel_rfl) (fun _ _ _ h => h) rfl ?_ hHeld ?_
  rotate_left
  · (intro wq hSq; have s0 := (hSq.cell (p := ⟨B, 0, none⟩) hl0).trans c0; have s1 := (hSq.cell (p := ⟨B + 1, 0, none⟩) hl1).trans c1; have s2 := (hSq.cell (p := ⟨B + 2, 0, none⟩) hl2).trans c2; go_simp <;> first | with_reducible rfl | rfl)
  simp only [Act.put, List.setIfInBounds_toArray, List.set_cons_zero, List.set_cons_succ]
  refine inRound.take_on (hF := fun _ => trivial) (hpl := by kernel_rfl) (i := 4) (v := ?_) rfl rfl (by kernel_rfl) (by kernel_rfl) (by kernel_rfl) (fun _ _ _ h => h) rfl ?_ hHeld ?_
  rotate_left
  · (intro wq hSq; have s0 := (hSq.cell (p := ⟨B, 0, none⟩) hl0).trans c0; have s1 := (hSq.cell (p := ⟨B + 1, 0, none⟩) hl1).trans c1; have s2 := (hSq.cell (p := ⟨B + 2, 0, none⟩) hl2).trans c2; go_simp <;> first | with_reducible rfl | rfl)
  simp only [Act.put, List.setIfInBounds_toArray, List.set_cons_zero, List.set_cons_succ]
  refine inRound.take_on (hF := fun _ => trivial) (hpl := by kernel_rfl) (i := 5) (v := ?_) rfl rfl (by kernel_rfl) (by kernel_rfl) (by kernel_rfl) (fun _ _ _ h => h) rfl ?_ hHeld ?_
  rotate_left
  · (intro wq hSq; have s0 := (hSq.cell (p := ⟨B, 0, none⟩) hl0).trans c0; have s1 := (hSq.cell (p := ⟨B + 1, 0, none⟩) hl1).trans c1; have s2 := (hSq.cell (p := ⟨B + 2, 0, none⟩) hl2).trans c2; go_simp <;> first | with_reducible rfl | rfl)
  simp only [Act.put, List.setIfInBounds_toArray, List.set_cons_zero, List.set_cons_succ]
  refine inRound.take_three (hF := fun _ => trivial) (i := 1) (j := 7) (l := 8) rfl rfl rfl (by kernel_rfl) (fun K hK => ?_) (fun K hK => ?_) (fun K hK => ?_)
  · go_simp
    ((first | refine ⟨trivial, (fun h => by cases h), (callsIn_wide.2 (hall _ hM.bel)).mono ?_⟩ | refine ⟨(fun h => by cases h), (callsIn_wide.2 (hall _ hM.bel)).mono ?_⟩ | refine ⟨trivial, (callsIn_wide.2 (hall _ hM.bel)).mono ?_⟩); rintro e z0 ⟨rfl, hz0⟩; obtain rfl := hz0.symm; clear hz0)
    try gi_wp2_with fail
    refine hK.out _ _ ?_ (fun hHeld => ?_)
    · exact hM.bel
    clear hK K
    try simp only [Act.put, List.setIfInBounds_toArray, List.set_cons_zero, List.set_cons_succ]
    refine inRound.take_three (hF := fun _ => trivial) (i := 2) (j := 7) (l := 8) rfl rfl rfl (by kernel_rfl) (fun K hK => ?_) (fun K hK => ?_) (fun K hK => ?_)
    · go_simp
      ((first | refine ⟨trivial, (fun h => by cases h), (callsIn_wide.2 (clone_any mb (hcp _ hM.bel))).mono ?_⟩ | refine ⟨(fun h => by cases h), (callsIn_wide.2 (clone_any mb (hcp _ hM.bel))).mono ?_⟩ | refine ⟨trivial, (callsIn_wide.2 (clone_any mb (hcp _ hM.bel))).mono ?_⟩); rintro e z1 ⟨mc, rfl, hc1, hb1, hl1⟩; replace hM := hM.addC hb1 hc1 hl1; clear hb1 hc1 hl1)
      try gi_wp2_with fail
      refine hK.out _ _ ?_ (fun hHeld => ?_)
      · exact hM.bel
      clear hK K
      try simp only [Act.put, List.setIfInBounds_toArray, List.set_cons_zero, List.set_cons_succ]
      refine inRound.take_three (hF := fun _ => trivial) (i := 6) (j := 7) (l := 8) rfl rfl rfl (by kernel_rfl) (fun K hK => ?_) (fun K hK => ?_) (fun K hK => ?_)
      · go_simp
        ((first | refine ⟨trivial, (fun h => by cases h), (callsIn_wide.2 (hps _ hM.bel)).mono ?_⟩ | refine ⟨(fun h => by cases h), (callsIn_wide.2 (hps _ hM.bel)).mono ?_⟩ | refine ⟨trivial, (callsIn_wide.2 (hps _ hM.bel)).mono ?_⟩); rintro e z2 ⟨⟨v2, zs2, rfl, ho2, hv2, hs2⟩, hb2⟩; obtain ⟨av, cv, rfl, _⟩ := OwnS.open ho2; replace hM := hM.addP (v := (av, zs2.length, cv)) hb2 ho2 hv2 hs2 rfl; clear hb2 ho2 hv2 hs2)
        try gi_wp2_with fail
        refine hK.out _ _ ?_ (fun hHeld => ?_)
        · exact hM.bel
        clear hK K
        try simp only [Act.put, List.setIfInBounds_toArray, List.set_cons_zero, List.set_cons_succ]
        refine inRound.take_two (hF := fun _ => trivial) (i := 7) (j := 8) rfl rfl (by kernel_rfl) (fun K hK => ?_) (fun K hK => ?_)
        · obtain ⟨zA, eA, hM⟩ := hM.put6
          go_simp
          first | rw [← eA] | rw [show (W1.alloc (.cells #[.map none] 30)).drew = zA from eA.symm]
          clear eA
          try change PMk _ _ _ _ _ _ (some W1.heap.size) _ _ _ at hM
          refine hK.out _ _ ?_ (fun hHeld => ?_)
          · exact hM.bel
          clear hK K
          try simp only [Act.put, List.setIfInBounds_toArray, List.set_cons_zero, List.set_cons_succ]
          refine inRound.take_one (hF := fun _ => trivial) (i := 8) rfl (by kernel_rfl) (fun K hK => ?_)
          · obtain ⟨zB, eB, hM⟩ := hM.put7
            go_simp
            first | rw [← eB] | rw [show (W1.alloc (.cells #[.slice none 0 0] 27)).drew = zB from eB.symm]
            clear eB
            try change PMk _ _ _ _ _ _ _ (some W1.heap.size) _ _ at hM
            refine hK.out _ _ ?_ (fun hHeld => ?_)
            · exact hM.bel
            clear hK K
            try simp only [Act.put, List.setIfInBounds_toArray, List.set_cons_zero, List.set_cons_succ]
            refine inRound.take_one (hF := fun _ => trivial) (i := 9) rfl (by kernel_rfl) (fun K hK => ?_)
            obtain ⟨x6, x7, hl6, zs, hfin⟩ := hM.fin
            have c6 := x6.cell
            have f6 := frozen_of_row _ _ 0 _ _ x6
            have c7 := x7.cell
            have f7 := frozen_of_row _ _ 0 _ _ x7
            replace hfin := hide_it hfin
            clear x6 x7
            go_simp
            refine hK.out _ _ ?_ (fun hHeld => ?_)
            · exact hl6
            clear hK K
            try simp only [Act.put, List.setIfInBounds_toArray, List.set_cons_zero, List.set_cons_succ]
            refine inRound.take_one (hF := fun _ => trivial) (i := 10) rfl (by kernel_rfl) (fun K hK => ?_)
            go_simp
            refine hK.out _ _ ?_ (fun hHeld => ?_)
            · exact hfin.out.bel
            clear hK K
            try simp only [Act.put, List.setIfInBounds_toArray, List.set_cons_zero, List.set_cons_succ]
            refine inRound.held_done (by kernel_rfl) ?_ _
            exact HREST.out _ _ _ _ _ _ _ _ hfin.out
        · obtain ⟨zB, eB, hM⟩ := hM.put7
          go_simp
          first | rw [← eB] | rw [show (W1.alloc (.cells #[.slice none 0 0] 27)).drew = zB from eB.symm]
          clear eB
          try change PMk _ _ _ _ _ _ _ (some W1.heap.size) _ _ at hM
          refine hK.out _ _ ?_ (fun hHeld => ?_)
          · exact hM.bel
          clear hK K
          try simp only [Act.put, List.setIfInBounds_toArray, List.set_cons_zero, List.set_cons_succ]
          refine inRound.take_one (hF := fun _ => trivial) (i := 7) rfl (by kernel_rfl) (fun K hK => ?_)
          · obtain ⟨zA, eA, hM⟩ := hM.put6
            go_simp
            first | rw [← eA] | rw [show (W1.alloc (.cells #[.map none] 30)).drew = zA from eA.symm]
            clear eA
            try change PMk _ _ _ _ _ _ (some W1.heap.size) _ _ _ at hM
            refine hK.out _ _ ?_ (fun hHeld => ?_)
            · exact hM.bel
            clear hK K
            try simp only [Act.put, List.setIfInBounds_toArray, List.set_cons_zero, List.set_cons_succ]
            refine inRound.take_one (hF := fun _ => trivial) (i := 9) rfl (by kernel_rfl) (fun K hK => ?_)
            obtain ⟨x6, x7, hl6, zs, hfin⟩ := hM.fin
            have c6 := x6.cell
            have f6 := frozen_of_row _ _ 0 _ _ x6
            have c7 := x7.cell
            have f7 := frozen_of_row _ _ 0 _ _ x7
            replace hfin := hide_it hfin
            clear x6 x7
            go_simp
            refine hK.out _ _ ?_ (fun hHeld => ?_)
            · exact hl6
            clear hK K
            try simp only [Act.put, List.setIfInBounds_toArray, List.set_cons_zero, List.set_cons_succ]
            refine inRound.take_one (hF := fun _ => trivial) (i := 10) rfl (by kernel_rfl) (fun K hK => ?_)
            go_simp
            refine hK.out _ _ ?_ (fun hHeld => ?_)
            · exact hfin.out.bel
            clear hK K
            try simp only [Act.put, List.setIfInBounds_toArray, List.set_cons_zero, List.set_cons_succ]
            refine inRound.held_done (by kernel_rfl) ?_ _
            exact HREST.out _ _ _ _ _ _ _ _ hfin.out
      · obtain ⟨zA, eA, hM⟩ := hM.put6
        go_simp
        first | rw [← eA] | rw [show (W1.alloc (.cells #[.map none] 30)).drew = zA from eA.symm]
        clear eA
        try change PMk _ _ _ _ _ _ (some W1.heap.size) _ _ _ at hM
        refine hK.out _ _ ?_ (fun hHeld => ?_)
        · exact hM.bel
        clear hK K
        try simp only [Act.put, List.setIfInBounds_toArray, List.set_cons_zero, List.set_cons_succ]
        refine inRound.take_two (hF := fun _ => trivial) (i := 6) (j := 8) rfl rfl (by kernel_rfl) (fun K hK => ?_) (fun K hK => ?_)
        · go_simp
          ((first | refine ⟨trivial, (fun h => by cases h), (callsIn_wide.2 (hps _ hM.bel)).mono ?_⟩ | refine ⟨(fun h => by cases h), (callsIn_wide.2 (hps _ hM.bel)).mono ?_⟩ | refine ⟨trivial, (callsIn_wide.2 (hps _ hM.bel)).mono ?_⟩); rintro e z2 ⟨⟨v2, zs2, rfl, ho2, hv2, hs2⟩, hb2⟩; obtain ⟨av, cv, rfl, _⟩ := OwnS.open ho2; replace hM := hM.addP (v := (av, zs2.length, cv)) hb2 ho2 hv2 hs2 rfl; clear hb2 ho2 hv2 hs2)
          try gi_wp2_with fail
          refine hK.out _ _ ?_ (fun hHeld => ?_)
          · exact hM.bel
          clear hK K
          try simp only [Act.put, List.setIfInBounds_toArray, List.set_cons_zero, List.set_cons_succ]
          refine inRound.take_one (hF := fun _ => trivial) (i := 8) rfl (by kernel_rfl) (fun K hK => ?_)
          · obtain ⟨zB, eB, hM⟩ := hM.put7
            go_simp
            first | rw [← eB] | rw [show (W1.alloc (.cells #[.slice none 0 0] 27)).drew = zB from eB.symm]
            clear eB
            try change PMk _ _ _ _ _ _ _ (some W1.heap.size) _ _ at hM
            refine hK.out _ _ ?_ (fun hHeld => ?_)
            · exact hM.bel
            clear hK K
            try simp only [Act.put, List.setIfInBounds_toArray, List.set_cons_zero, List.set_cons_succ]
            refine inRound.take_one (hF := fun _ => trivial) (i := 9) rfl (by kernel_rfl) (fun K hK => ?_)
            obtain ⟨x6, x7, hl6, zs, hfin⟩ := hM.fin
            have c6 := x6.cell
            have f6 := frozen_of_row _ _ 0 _ _ x6
            have c7 := x7.cell
            have f7 := frozen_of_row _ _ 0 _ _ x7
            replace hfin := hide_it hfin
            clear x6 x7
            go_simp
            refine hK.out _ _ ?_ (fun hHeld => ?_)
            · exact hl6
            clear hK K
            try simp only [Act.put, List.setIfInBounds_toArray, List.set_cons_zero, List.set_cons_succ]
            refine inRound.take_one (hF := fun _ => trivial) (i := 10) rfl (by kernel_rfl) (fun K hK => ?_)
            go_simp
            refine hK.out _ _ ?_ (fun hHeld => ?_)
            · exact hfin.out.bel
            clear hK K
            try simp only [Act.put, List.setIfInBounds_toArray, List.set_cons_zero, List.set_cons_succ]
            refine inRound.held_done (by kernel_rfl) ?_ _
            exact HREST.out _ _ _ _ _ _ _ _ hfin.out
        · obtain ⟨zB, eB, hM⟩ := hM.put7
          go_simp
          first | rw [← eB] | rw [show (W1.alloc (.cells #[.slice none 0 0] 27)).drew = zB from eB.symm]
          clear eB
          try change PMk _ _ _ _ _ _ _ (some W1.heap.size) _ _ at hM
          refine hK.out _ _ ?_ (fun hHeld => ?_)
          · exact hM.bel
          clear hK K
          try simp only [Act.put, List.setIfInBounds_toArray, List.set_cons_zero, List.set_cons_succ]
          refine inRound.take_one (hF := fun _ => trivial) (i := 6) rfl (by kernel_rfl) (fun K hK => ?_)
          · go_simp
            ((first | refine ⟨trivial, (fun h => by cases h), (callsIn_wide.2 (hps _ hM.bel)).mono ?_⟩ | refine ⟨(fun h => by cases h), (callsIn_wide.2 (hps _ hM.bel)).mono ?_⟩ | refine ⟨trivial, (callsIn_wide.2 (hps _ hM.bel)).mono ?_⟩); rintro e z2 ⟨⟨v2, zs2, rfl, ho2, hv2, hs2⟩, hb2⟩; obtain ⟨av, cv, rfl, _⟩ := OwnS.open ho2; replace hM := hM.addP (v := (av, zs2.length, cv)) hb2 ho2 hv2 hs2 rfl; clear hb2 ho2 hv2 hs2)
            try gi_wp2_with fail
            refine hK.out _ _ ?_ (fun hHeld => ?_)
            · exact hM.bel
            clear hK K
            try simp only [Act.put, List.setIfInBounds_toArray, List.set_cons_zero, List.set_cons_succ]
            refine inRound.take_one (hF := fun _ => trivial) (i := 9) rfl (by kernel_rfl) (fun K hK => ?_)
            obtain ⟨x6, x7, hl6, zs, hfin⟩ := hM.fin
            have c6 := x6.cell
            have f6 := frozen_of_row _ _ 0 _ _ x6
            have c7 := x7.cell
            have f7 := frozen_of_row _ _ 0 _ _ x7
            replace hfin := hide_it hfin
            clear x6 x7
            go_simp
            refine hK.out _ _ ?_ (fun hHeld => ?_)
            · exact hl6
            clear hK K
            try simp only [Act.put, List.setIfInBounds_toArray, List.set_cons_zero, List.set_cons_succ]
            refine inRound.take_one (hF := fun _ => trivial) (i := 10) rfl (by kernel_rfl) (fun K hK => ?_)
            go_simp
            refine hK.out _ _ ?_ (fun hHeld => ?_)
            · exact hfin.out.bel
            clear hK K
            try simp only [Act.put, List.setIfInBounds_toArray, List.set_cons_zero, List.set_cons_succ]
            refine inRound.held_done (by kernel_rfl) ?_ _
            exact HREST.out _ _ _ _ _ _ _ _ hfin.out
      · obtain ⟨zB, eB, hM⟩ := hM.put7
        go_simp
        first | rw [← eB] | rw [show (W1.alloc (.cells #[.slice none 0 0] 27)).drew = zB from eB.symm]
        clear eB
        try change PMk _ _ _ _ _ _ _ (some W1.heap.size) _ _ at hM
        refine hK.out _ _ ?_ (fun hHeld => ?_)
        · exact hM.bel
        clear hK K
        try simp only [Act.put, List.setIfInBounds_toArray, List.set_cons_zero, List.set_cons_succ]
        refine inRound.take_two (hF := fun _ => trivial) (i := 6) (j := 7) rfl rfl (by kernel_rfl) (fun K hK => ?_) (fun K hK => ?_)
        · go_simp
          ((first | refine ⟨trivial, (fun h => by cases h), (callsIn_wide.2 (hps _ hM.bel)).mono ?_⟩ | refine ⟨(fun h => by cases h), (callsIn_wide.2 (hps _ hM.bel)).mono ?_⟩ | refine ⟨trivial, (callsIn_wide.2 (hps _ hM.bel)).mono ?_⟩); rintro e z2 ⟨⟨v2, zs2, rfl, ho2, hv2, hs2⟩, hb2⟩; obtain ⟨av, cv, rfl, _⟩ := OwnS.open ho2; replace hM := hM.addP (v := (av, zs2.length, cv)) hb2 ho2 hv2 hs2 rfl; clear hb2 ho2 hv2 hs2)
          try gi_wp2_with fail
          refine hK.out _ _ ?_ (fun hHeld => ?_)
          · exact hM.bel
          clear hK K
          try simp only [Act.put, List.setIfInBounds_toArray, List.set_cons_zero, List.set_cons_succ]
          refine inRound.take_one (hF := fun _ => trivial) (i := 7) rfl (by kernel_rfl) (fun K hK => ?_)
          · obtain ⟨zA, eA, hM⟩ := hM.put6
            go_simp
            first | rw [← eA] | rw [show (W1.alloc (.cells #[.map none] 30)).drew = zA from eA.symm]
            clear eA
            try change PMk _ _ _ _ _ _ (some W1.heap.size) _ _ _ at hM
            refine hK.out _ _ ?_ (fun hHeld => ?_)
            · exact hM.bel
            clear hK K
            try simp only [Act.put, List.setIfInBounds_toArray, List.set_cons_zero, List.set_cons_succ]
            refine inRound.take_one (hF := fun _ => trivial) (i := 9) rfl (by kernel_rfl) (fun K hK => ?_)
            obtain ⟨x6, x7, hl6, zs, hfin⟩ := hM.fin
            have c6 := x6.cell
            have f6 := frozen_of_row _ _ 0 _ _ x6
            have c7 := x7.cell
            have f7 := frozen_of_row _ _ 0 _ _ x7
            replace hfin := hide_it hfin
            clear x6 x7
            go_simp
            refine hK.out _ _ ?_ (fun hHeld => ?_)
            · exact hl6
            clear hK K
            try simp only [Act.put, List.setIfInBounds_toArray, List.set_cons_zero, List.set_cons_succ]
            refine inRound.take_one (hF := fun _ => trivial) (i := 10) rfl (by kernel_rfl) (fun K hK => ?_)
            go_simp
            refine hK.out _ _ ?_ (fun hHeld => ?_)
            · exact hfin.out.bel
            clear hK K
            try simp only [Act.put, List.setIfInBounds_toArray, List.set_cons_zero, List.set_cons_succ]
            refine inRound.held_done (by kernel_rfl) ?_ _
            exact HREST.out _ _ _ _ _ _ _ _ hfin.out
        · obtain ⟨zA, eA, hM⟩ := hM.put6
          go_simp
          first | rw [← eA] | rw [show (W1.alloc (.cells #[.map none] 30)).drew = zA from eA.symm]
          clear eA
          try change PMk _ _ _ _ _ _ (some W1.heap.size) _ _ _ at hM
          refine hK.out _ _ ?_ (fun hHeld => ?_)
          · exact hM.bel
          clear hK K
          try simp only [Act.put, List.setIfInBounds_toArray, List.set_cons_zero, List.set_cons_succ]
          refine inRound.take_one (hF := fun _ => trivial) (i := 6) rfl (by kernel_rfl) (fun K hK => ?_)
          · go_simp
            ((first | refine ⟨trivial, (fun h => by cases h), (callsIn_wide.2 (hps _ hM.bel)).mono ?_⟩ | refine ⟨(fun h => by cases h), (callsIn_wide.2 (hps _ hM.bel)).mono ?_⟩ | refine ⟨trivial, (callsIn_wide.2 (hps _ hM.bel)).mono ?_⟩); rintro e z2 ⟨⟨v2, zs2, rfl, ho2, hv2, hs2⟩, hb2⟩; obtain ⟨av, cv, rfl, _⟩ := OwnS.open ho2; replace hM := hM.addP (v := (av, zs2.length, cv)) hb2 ho2 hv2 hs2 rfl; clear hb2 ho2 hv2 hs2)
            try gi_wp2_with fail
            refine hK.out _ _ ?_ (fun hHeld => ?_)
            · exact hM.bel
            clear hK K
            try simp only [Act.put, List.setIfInBounds_toArray, List.set_cons_zero, List.set_cons_succ]
            refine inRound.take_one (hF := fun _ => trivial) (i := 9) rfl (by kernel_rfl) (fun K hK => ?_)
            obtain ⟨x6, x7, hl6, zs, hfin⟩ := hM.fin
            have c6 := x6.cell
            have f6 := frozen_of_row _ _ 0 _ _ x6
            have c7 := x7.cell
            have f7 := frozen_of_row _ _ 0 _ _ x7
            replace hfin := hide_it hfin
            clear x6 x7
            go_simp
            refine hK.out _ _ ?_ (fun hHeld => ?_)
            · exact hl6
            clear hK K
            try simp only [Act.put, List.setIfInBounds_toArray, List.set_cons_zero, List.set_cons_succ]
            refine inRound.take_one (hF := fun _ => trivial) (i := 10) rfl (by kernel_rfl) (fun K hK => ?_)
            go_simp
            refine hK.out _ _ ?_ (fun hHeld => ?_)
            · exact hfin.out.bel
            clear hK K
            try simp only [Act.put, List.setIfInBounds_toArray, List.set_cons_zero, List.set_cons_succ]
            refine inRound.held_done (by kernel_rfl) ?_ _
            exact HREST.out _ _ _ _ _ _ _ _ hfin.out
    · obtain ⟨zA, eA, hM⟩ := hM.put6
      go_simp
      first | rw [← eA] | rw [show (W1.alloc (.cells #[.map none] 30)).drew = zA from eA.symm]
      clear eA
      try change PMk _ _ _ _ _ _ (some W1.heap.size) _ _ _ at hM
      refine hK.out _ _ ?_ (fun hHeld => ?_)
      · exact hM.bel
      clear hK K
      try simp only [Act.put, List.setIfInBounds_toArray, List.set_cons_zero, List.set_cons_succ]
      refine inRound.take_two (hF := fun _ => trivial) (i := 2) (j := 8) rfl rfl (by kernel_rfl) (fun K hK => ?_) (fun K hK => ?_)
      · go_simp
        ((first | refine ⟨trivial, (fun h => by cases h), (callsIn_wide.2 (clone_any mb (hcp _ hM.bel))).mono ?_⟩ | refine ⟨(fun h => by cases h), (callsIn_wide.2 (clone_any mb (hcp _ hM.bel))).mono ?_⟩ | refine ⟨trivial, (callsIn_wide.2 (clone_any mb (hcp _ hM.bel))).mono ?_⟩); rintro e z1 ⟨mc, rfl, hc1, hb1, hl1⟩; replace hM := hM.addC hb1 hc1 hl1; clear hb1 hc1 hl1)
        try gi_wp2_with fail
        refine hK.out _ _ ?_ (fun hHeld => ?_)
        · exact hM.bel
        clear hK K
        try simp only [Act.put, List.setIfInBounds_toArray, List.set_cons_zero, List.set_cons_succ]
        refine inRound.take_two (hF := fun _ => trivial) (i := 6) (j := 8) rfl rfl (by kernel_rfl) (fun K hK => ?_) (fun K hK => ?_)
        · go_simp
          ((first | refine ⟨trivial, (fun h => by cases h), (callsIn_wide.2 (hps _ hM.bel)).mono ?_⟩ | refine ⟨(fun h => by cases h), (callsIn_wide.2 (hps _ hM.bel)).mono ?_⟩ | refine ⟨trivial, (callsIn_wide.2 (hps _ hM.bel)).mono ?_⟩); rintro e z2 ⟨⟨v2, zs2, rfl, ho2, hv2, hs2⟩, hb2⟩; obtain ⟨av, cv, rfl, _⟩ := OwnS.open ho2; replace hM := hM.addP (v := (av, zs2.length, cv)) hb2 ho2 hv2 hs2 rfl; clear hb2 ho2 hv2 hs2)
          try gi_wp2_with fail
          refine hK.out _ _ ?_ (fun hHeld => ?_)
          · exact hM.bel
          clear hK K
          try simp only [Act.put, List.setIfInBounds_toArray, List.set_cons_zero, List.set_cons_succ]
          refine inRound.take_one (hF := fun _ => trivial) (i := 8) rfl (by kernel_rfl) (fun K hK => ?_)
          · obtain ⟨zB, eB, hM⟩ := hM.put7
            go_simp
            first | rw [← eB] | rw [show (W1.alloc (.cells #[.slice none 0 0] 27)).drew = zB from eB.symm]
            clear eB
            try change PMk _ _ _ _ _ _ _ (some W1.heap.size) _ _ at hM
            refine hK.out _ _ ?_ (fun hHeld => ?_)
            · exact hM.bel
            clear hK K
            try simp only [Act.put, List.setIfInBounds_toArray, List.set_cons_zero, List.set_cons_succ]
            refine inRound.take_one (hF := fun _ => trivial) (i := 9) rfl (by kernel_rfl) (fun K hK => ?_)
            obtain ⟨x6, x7, hl6, zs, hfin⟩ := hM.fin
            have c6 := x6.cell
            have f6 := frozen_of_row _ _ 0 _ _ x6
            have c7 := x7.cell
            have f7 := frozen_of_row _ _ 0 _ _ x7
            replace hfin := hide_it hfin
            clear x6 x7
            go_simp
            refine hK.out _ _ ?_ (fun hHeld => ?_)
            · exact hl6
            clear hK K
            try simp only [Act.put, List.setIfInBounds_toArray, List.set_cons_zero, List.set_cons_succ]
            refine inRound.take_one (hF := fun _ => trivial) (i := 10) rfl (by kernel_rfl) (fun K hK => ?_)
            go_simp
            refine hK.out _ _ ?_ (fun hHeld => ?_)
            · exact hfin.out.bel
            clear hK K
            try simp only [Act.put, List.setIfInBounds_toArray, List.set_cons_zero, List.set_cons_succ]
            refine inRound.held_done (by kernel_rfl) ?_ _
            exact HREST.out _ _ _ _ _ _ _ _ hfin.out
        · obtain ⟨zB, eB, hM⟩ := hM.put7
          go_simp
          first | rw [← eB] | rw [show (W1.alloc (.cells #[.slice none 0 0] 27)).drew = zB from eB.symm]
          clear eB
          try change PMk _ _ _ _ _ _ _ (some W1.heap.size) _ _ at hM
          refine hK.out _ _ ?_ (fun hHeld => ?_)
          · exact hM.bel
          clear hK K
          try simp only [Act.put, List.setIfInBounds_toArray, List.set_cons_zero, List.set_cons_succ]
          refine inRound.take_one (hF := fun _ => trivial) (i := 6) rfl (by kernel_rfl) (fun K hK => ?_)
          · go_simp
            ((first | refine ⟨trivial, (fun h => by cases h), (callsIn_wide.2 (hps _ hM.bel)).mono ?_⟩ | refine ⟨(fun h => by cases h), (callsIn_wide.2 (hps _ hM.bel)).mono ?_⟩ | refine ⟨trivial, (callsIn_wide.2 (hps _ hM.bel)).mono ?_⟩); rintro e z2 ⟨⟨v2, zs2, rfl, ho2, hv2, hs2⟩, hb2⟩; obtain ⟨av, cv, rfl, _⟩ := OwnS.open ho2; replace hM := hM.addP (v := (av, zs2.length, cv)) hb2 ho2 hv2 hs2 rfl; clear hb2 ho2 hv2 hs2)
            try gi_wp2_with fail
            refine hK.out _ _ ?_ (fun hHeld => ?_)
            · exact hM.bel
            clear hK K
            try simp only [Act.put, List.setIfInBounds_toArray, List.set_cons_zero, List.set_cons_succ]
            refine inRound.take_one (hF := fun _ => trivial) (i := 9) rfl (by kernel_rfl) (fun K hK => ?_)
            obtain ⟨x6, x7, hl6, zs, hfin⟩ := hM.fin
            have c6 := x6.cell
            have f6 := frozen_of_row _ _ 0 _ _ x6
            have c7 := x7.cell
            have f7 := frozen_of_row _ _ 0 _ _ x7
            replace hfin := hide_it hfin
            clear x6 x7
            go_simp
            refine hK.out _ _ ?_ (fun hHeld => ?_)
            · exact hl6
            clear hK K
            try simp only [Act.put, List.setIfInBounds_toArray, List.set_cons_zero, List.set_cons_succ]
            refine inRound.take_one (hF := fun _ => trivial) (i := 10) rfl (by kernel_rfl) (fun K hK => ?_)
            go_simp
            refine hK.out _ _ ?_ (fun hHeld => ?_)
            · exact hfin.out.bel
            clear hK K
            try simp only [Act.put, List.setIfInBounds_toArray, List.set_cons_zero, List.set_cons_succ]
            refine inRound.held_done (by kernel_rfl) ?_ _
            exact HREST.out _ _ _ _ _ _ _ _ hfin.out
      · obtain ⟨zB, eB, hM⟩ := hM.put7
        go_simp
        first | rw [← eB] | rw [show (W1.alloc (.cells #[.slice none 0 0] 27)).drew = zB from eB.symm]
        clear eB
        try change PMk _ _ _ _ _ _ _ (some W1.heap.size) _ _ at hM
        refine hK.out _ _ ?_ (fun hHeld => ?_)
        · exact hM.bel
        clear hK K
        try simp only [Act.put, List.setIfInBounds_toArray, List.set_cons_zero, List.set_cons_succ]
        refine inRound.take_one (hF := fun _ => trivial) (i := 2) rfl (by kernel_rfl) (fun K hK => ?_)
        · go_simp
          ((first | refine ⟨trivial, (fun h => by cases h), (callsIn_wide.2 (clone_any mb (hcp _ hM.bel))).mono ?_⟩ | refine ⟨(fun h => by cases h), (callsIn_wide.2 (clone_any mb (hcp _ hM.bel))).mono ?_⟩ | refine ⟨trivial, (callsIn_wide.2 (clone_any mb (hcp _ hM.bel))).mono ?_⟩); rintro e z1 ⟨mc, rfl, hc1, hb1, hl1⟩; replace hM := hM.addC hb1 hc1 hl1; clear hb1 hc1 hl1)
          try gi_wp2_with fail
          refine hK.out _ _ ?_ (fun hHeld => ?_)
          · exact hM.bel
          clear hK K
          try simp only [Act.put, List.setIfInBounds_toArray, List.set_cons_zero, List.set_cons_succ]
          refine inRound.take_one (hF := fun _ => trivial) (i := 6) rfl (by kernel_rfl) (fun K hK => ?_)
          · go_simp
            ((first | refine ⟨trivial, (fun h => by cases h), (callsIn_wide.2 (hps _ hM.bel)).mono ?_⟩ | refine ⟨(fun h => by cases h), (callsIn_wide.2 (hps _ hM.bel)).mono ?_⟩ | refine ⟨trivial, (callsIn_wide.2 (hps _ hM.bel)).mono ?_⟩); rintro e z2 ⟨⟨v2, zs2, rfl, ho2, hv2, hs2⟩, hb2⟩; obtain ⟨av, cv, rfl, _⟩ := OwnS.open ho2; replace hM := hM.addP (v := (av, zs2.length, cv)) hb2 ho2 hv2 hs2 rfl; clear hb2 ho2 hv2 hs2)
            try gi_wp2_with fail
            refine hK.out _ _ ?_ (fun hHeld => ?_)
            · exact hM.bel
            clear hK K
            try simp only [Act.put, List.setIfInBounds_toArray, List.set_cons_zero, List.set_cons_succ]
            refine inRound.take_one (hF := fun _ => trivial) (i := 9) rfl (by kernel_rfl) (fun K hK => ?_)
            obtain ⟨x6, x7, hl6, zs, hfin⟩ := hM.fin
            have c6 := x6.cell
            have f6 := frozen_of_row _ _ 0 _ _ x6
            have c7 := x7.cell
            have f7 := frozen_of_row _ _ 0 _ _ x7
            replace hfin := hide_it hfin
            clear x6 x7
            go_simp
            refine hK.out _ _ ?_ (fun hHeld => ?_)
            · exact hl6
            clear hK K
            try simp only [Act.put, List.setIfInBounds_toArray, List.set_cons_zero, List.set_cons_succ]
            refine inRound.take_one (hF := fun _ => trivial) (i := 10) rfl (by kernel_rfl) (fun K hK => ?_)
            go_simp
            refine hK.out _ _ ?_ (fun hHeld => ?_)
            · exact hfin.out.bel
            clear hK K
            try simp only [Act.put, List.setIfInBounds_toArray, List.set_cons_zero, List.set_cons_succ]
            refine inRound.held_done (by kernel_rfl) ?_ _
            exact HREST.out _ _ _ _ _ _ _ _ hfin.out
    · obtain ⟨zB, eB, hM⟩ := hM.put7
      go_simp
      first | rw [← eB] | rw [show (W1.alloc (.cells #[.slice none 0 0] 27)).drew = zB from eB.symm]
      clear eB
      try change PMk _ _ _ _ _ _ _ (some W1.heap.size) _ _ at hM
      refine hK.out _ _ ?_ (fun hHeld => ?_)
      · exact hM.bel
      clear hK K
      try simp only [Act.put, List.setIfInBounds_toArray, List.set_cons_zero, List.set_cons_succ]
      refine inRound.take_two (hF := fun _ => trivial) (i := 2) (j := 7) rfl rfl (by kernel_rfl) (fun K hK => ?_) (fun K hK => ?_)
      · go_simp
        ((first | refine ⟨trivial, (fun h => by cases h), (callsIn_wide.2 (clone_any mb (hcp _ hM.bel))).mono ?_⟩ | refine ⟨(fun h => by cases h), (callsIn_wide.2 (clone_any mb (hcp _ hM.bel))).mono ?_⟩ | refine ⟨trivial, (callsIn_wide.2 (clone_any mb (hcp _ hM.bel))).mono ?_⟩); rintro e z1 ⟨mc, rfl, hc1, hb1, hl1⟩; replace hM := hM.addC hb1 hc1 hl1; clear hb1 hc1 hl1)
        try gi_wp2_with fail
        refine hK.out _ _ ?_ (fun hHeld => ?_)
        · exact hM.bel
        clear hK K
        try simp only [Act.put, List.setIfInBounds_toArray, List.set_cons_zero, List.set_cons_succ]
        refine inRound.take_two (hF := fun _ => trivial) (i := 6) (j := 7) rfl rfl (by kernel_rfl) (fun K hK => ?_) (fun K hK => ?_)
        · go_simp
          ((first | refine ⟨trivial, (fun h => by cases h), (callsIn_wide.2 (hps _ hM.bel)).mono ?_⟩ | refine ⟨(fun h => by cases h), (callsIn_wide.2 (hps _ hM.bel)).mono ?_⟩ | refine ⟨trivial, (callsIn_wide.2 (hps _ hM.bel)).mono ?_⟩); rintro e z2 ⟨⟨v2, zs2, rfl, ho2, hv2, hs2⟩, hb2⟩; obtain ⟨av, cv, rfl, _⟩ := OwnS.open ho2; replace hM := hM.addP (v := (av, zs2.length, cv)) hb2 ho2 hv2 hs2 rfl; clear hb2 ho2 hv2 hs2)
          try gi_wp2_with fail
          refine hK.out _ _ ?_ (fun hHeld => ?_)
          · exact hM.bel
          clear hK K
          try simp only [Act.put, List.setIfInBounds_toArray, List.set_cons_zero, List.set_cons_succ]
          refine inRound.take_one (hF := fun _ => trivial) (i := 7) rfl (by kernel_rfl) (fun K hK => ?_)
          · obtain ⟨zA, eA, hM⟩ := hM.put6
            go_simp
            first | rw [← eA] | rw [show (W1.alloc (.cells #[.map none] 30)).drew = zA from eA.symm]
            clear eA
            try change PMk _ _ _ _ _ _ (some W1.heap.size) _ _ _ at hM
            refine hK.out _ _ ?_ (fun hHeld => ?_)
            · exact hM.bel
            clear hK K
            try simp only [Act.put, List.setIfInBounds_toArray, List.set_cons_zero, List.set_cons_succ]
            refine inRound.take_one (hF := fun _ => trivial) (i := 9) rfl (by kernel_rfl) (fun K hK => ?_)
            obtain ⟨x6, x7, hl6, zs, hfin⟩ := hM.fin
            have c6 := x6.cell
            have f6 := frozen_of_row _ _ 0 _ _ x6
            have c7 := x7.cell
            have f7 := frozen_of_row _ _ 0 _ _ x7
            replace hfin := hide_it hfin
            clear x6 x7
            go_simp
            refine hK.out _ _ ?_ (fun hHeld => ?_)
            · exact hl6
            clear hK K
            try simp only [Act.put, List.setIfInBounds_toArray, List.set_cons_zero, List.set_cons_succ]
            refine inRound.take_one (hF := fun _ => trivial) (i := 10) rfl (by kernel_rfl) (fun K hK => ?_)
            go_simp
            refine hK.out _ _ ?_ (fun hHeld => ?_)
            · exact hfin.out.bel
            clear hK K
            try simp only [Act.put, List.setIfInBounds_toArray, List.set_cons_zero, List.set_cons_succ]
            refine inRound.held_done (by kernel_rfl) ?_ _
            exact HREST.out _ _ _ _ _ _ _ _ hfin.out
        · obtain ⟨zA, eA, hM⟩ := hM.put6
          go_simp
          first | rw [← eA] | rw [show (W1.alloc (.cells #[.map none] 30)).drew = zA from eA.symm]
          clear eA
          try change PMk _ _ _ _ _ _ (some W1.heap.size) _ _ _ at hM
          refine hK.out _ _ ?_ (fun hHeld => ?_)
          · exact hM.bel
          clear hK K
          try simp only [Act.put, List.setIfInBounds_toArray, List.set_cons_zero, List.set_cons_succ]
          refine inRound.take_one (hF := fun _ => trivial) (i := 6) rfl (by kernel_rfl) (fun K hK => ?_)
          · go_simp
            ((first | refine ⟨trivial, (fun h => by cases h), (callsIn_wide.2 (hps _ hM.bel)).mono ?_⟩ | refine ⟨(fun h => by cases h), (callsIn_wide.2 (hps _ hM.bel)).mono ?_⟩ | refine ⟨trivial, (callsIn_wide.2 (hps _ hM.bel)).mono ?_⟩); rintro e z2 ⟨⟨v2, zs2, rfl, ho2, hv2, hs2⟩, hb2⟩; obtain ⟨av, cv, rfl, _⟩ := OwnS.open ho2; replace hM := hM.addP (v := (av, zs2.length, cv)) hb2 ho2 hv2 hs2 rfl; clear hb2 ho2 hv2 hs2)
            try gi_wp2_with fail
            refine hK.out _ _ ?_ (fun hHeld => ?_)
            · exact hM.bel
            clear hK K
            try simp only [Act.put, List.setIfInBounds_toArray, List.set_cons_zero, List.set_cons_succ]
            refine inRound.take_one (hF := fun _ => trivial) (i := 9) rfl (by kernel_rfl) (fun K hK => ?_)
            obtain ⟨x6, x7, hl6, zs, hfin⟩ := hM.fin
            have c6 := x6.cell
            have f6 := frozen_of_row _ _ 0 _ _ x6
            have c7 := x7.cell
            have f7 := frozen_of_row _ _ 0 _ _ x7
            replace hfin := hide_it hfin
            clear x6 x7
            go_simp
            refine hK.out _ _ ?_ (fun hHeld => ?_)
            · exact hl6
            clear hK K
            try simp only [Act.put, List.setIfInBounds_toArray, List.set_cons_zero, List.set_cons_succ]
            refine inRound.take_one (hF := fun _ => trivial) (i := 10) rfl (by kernel_rfl) (fun K hK => ?_)
            go_simp
            refine hK.out _ _ ?_ (fun hHeld => ?_)
            · exact hfin.out.bel
            clear hK K
            try simp only [Act.put, List.setIfInBounds_toArray, List.set_cons_zero, List.set_cons_succ]
            refine inRound.held_done (by kernel_rfl) ?_ _
            exact HREST.out _ _ _ _ _ _ _ _ hfin.out
      · obtain ⟨zA, eA, hM⟩ := hM.put6
        go_simp
        first | rw [← eA] | rw [show (W1.alloc (.cells #[.map none] 30)).drew = zA from eA.symm]
        clear eA
        try change PMk _ _ _ _ _ _ (some W1.heap.size) _ _ _ at hM
        refine hK.out _ _ ?_ (fun hHeld => ?_)
        · exact hM.bel
        clear hK K
        try simp only [Act.put, List.setIfInBounds_toArray, List.set_cons_zero, List.set_cons_succ]
        refine inRound.take_one (hF := fun _ => trivial) (i := 2) rfl (by kernel_rfl) (fun K hK => ?_)
        · go_simp
          ((first | refine ⟨trivial, (fun h => by cases h), (callsIn_wide.2 (clone_any mb (hcp _ hM.bel))).mono ?_⟩ | refine ⟨(fun h => by cases h), (callsIn_wide.2 (clone_any mb (hcp _ hM.bel))).mono ?_⟩ | refine ⟨trivial, (callsIn_wide.2 (clone_any mb (hcp _ hM.bel))).mono ?_⟩); rintro e z1 ⟨mc, rfl, hc1, hb1, hl1⟩; replace hM := hM.addC hb1 hc1 hl1; clear hb1 hc1 hl1)
          try gi_wp2_with fail
          refine hK.out _ _ ?_ (fun hHeld => ?_)
          · exact hM.bel
          clear hK K
          try simp only [Act.put, List.setIfInBounds_toArray, List.set_cons_zero, List.set_cons_succ]
          refine inRound.take_one (hF := fun _ => trivial) (i := 6) rfl (by kernel_rfl) (fun K hK => ?_)
          · go_simp
            ((first | refine ⟨trivial, (fun h => by cases h), (callsIn_wide.2 (hps _ hM.bel)).mono ?_⟩ | refine ⟨(fun h => by cases h), (callsIn_wide.2 (hps _ hM.bel)).mono ?_⟩ | refine ⟨trivial, (callsIn_wide.2 (hps _ hM.bel)).mono ?_⟩); rintro e z2 ⟨⟨v2, zs2, rfl, ho2, hv2, hs2⟩, hb2⟩; obtain ⟨av, cv, rfl, _⟩ := OwnS.open ho2; replace hM := hM.addP (v := (av, zs2.length, cv)) hb2 ho2 hv2 hs2 rfl; clear hb2 ho2 hv2 hs2)
            try gi_wp2_with fail
            refine hK.out _ _ ?_ (fun hHeld => ?_)
            · exact hM.bel
            clear hK K
            try simp only [Act.put, List.setIfInBounds_toArray, List.set_cons_zero, List.set_cons_succ]
            refine inRound.take_one (hF := fun _ => trivial) (i := 9) rfl (by kernel_rfl) (fun K hK => ?_)
            obtain ⟨x6, x7, hl6, zs, hfin⟩ := hM.fin
            have c6 := x6.cell
            have f6 := frozen_of_row _ _ 0 _ _ x6
            have c7 := x7.cell
            have f7 := frozen_of_row _ _ 0 _ _ x7
            replace hfin := hide_it hfin
            clear x6 x7
            go_simp
            refine hK.out _ _ ?_ (fun hHeld => ?_)
            · exact hl6
            clear hK K
            try simp only [Act.put, List.setIfInBounds_toArray, List.set_cons_zero, List.set_cons_succ]
            refine inRound.take_one (hF := fun _ => trivial) (i := 10) rfl (by kernel_rfl) (fun K hK => ?_)
            go_simp
            refine hK.out _ _ ?_ (fun hHeld => ?_)
            · exact hfin.out.bel
            clear hK K
            try simp only [Act.put, List.setIfInBounds_toArray, List.set_cons_zero, List.set_cons_succ]
            refine inRound.held_done (by kernel_rfl) ?_ _
            exact HREST.out _ _ _ _ _ _ _ _ hfin.out
  · obtain ⟨zA, eA, hM⟩ := hM.put6
    go_simp
    first | rw [← eA] | rw [show (W1.alloc (.cells #[.map none] 30)).drew = zA from eA.symm]
    clear eA
    try change PMk _ _ _ _ _ _ (some W1.heap.size) _ _ _ at hM
    refine hK.out _ _ ?_ (fun hHeld => ?_)
    · exact hM.bel
    clear hK K
    try simp only [Act.put, List.setIfInBounds_toArray, List.set_cons_zero, List.set_cons_succ]
    refine inRound.take_two (hF := fun _ => trivial) (i := 1) (j := 8) rfl rfl (by kernel_rfl) (fun K hK => ?_) (fun K hK => ?_)
    · go_simp
      ((first | refine ⟨trivial, (fun h => by cases h), (callsIn_wide.2 (hall _ hM.bel)).mono ?_⟩ | refine ⟨(fun h => by cases h), (callsIn_wide.2 (hall _ hM.bel)).mono ?_⟩ | refine ⟨trivial, (callsIn_wide.2 (hall _ hM.bel)).mono ?_⟩); rintro e z0 ⟨rfl, hz0⟩; obtain rfl := hz0.symm; clear hz0)
      try gi_wp2_with fail
      refine hK.out _ _ ?_ (fun hHeld => ?_)
      · exact hM.bel
      clear hK K
      try simp only [Act.put, List.setIfInBounds_toArray, List.set_cons_zero, List.set_cons_succ]
      refine inRound.take_two (hF := fun _ => trivial) (i := 2) (j := 8) rfl rfl (by kernel_rfl) (fun K hK => ?_) (fun K hK => ?_)
      · go_simp
        ((first | refine ⟨trivial, (fun h => by cases h), (callsIn_wide.2 (clone_any mb (hcp _ hM.bel))).mono ?_⟩ | refine ⟨(fun h => by cases h), (callsIn_wide.2 (clone_any mb (hcp _ hM.bel))).mono ?_⟩ | refine ⟨trivial, (callsIn_wide.2 (clone_any mb (hcp _ hM.bel))).mono ?_⟩); rintro e z1 ⟨mc, rfl, hc1, hb1, hl1⟩; replace hM := hM.addC hb1 hc1 hl1; clear hb1 hc1 hl1)
        try gi_wp2_with fail
        refine hK.out _ _ ?_ (fun hHeld => ?_)
        · exact hM.bel
        clear hK K
        try simp only [Act.put, List.setIfInBounds_toArray, List.set_cons_zero, List.set_cons_succ]
        refine inRound.take_two (hF := fun _ => trivial) (i := 6) (j := 8) rfl rfl (by kernel_rfl) (fun K hK => ?_) (fun K hK => ?_)
        · go_simp
          ((first | refine ⟨trivial, (fun h => by cases h), (callsIn_wide.2 (hps _ hM.bel)).mono ?_⟩ | refine ⟨(fun h => by cases h), (callsIn_wide.2 (hps _ hM.bel)).mono ?_⟩ | refine ⟨trivial, (callsIn_wide.2 (hps _ hM.bel)).mono ?_⟩); rintro e z2 ⟨⟨v2, zs2, rfl, ho2, hv2, hs2⟩, hb2⟩; obtain ⟨av, cv, rfl, _⟩ := OwnS.open ho2; replace hM := hM.addP (v := (av, zs2.length, cv)) hb2 ho2 hv2 hs2 rfl; clear hb2 ho2 hv2 hs2)
          try gi_wp2_with fail
          refine hK.out _ _ ?_ (fun hHeld => ?_)
          · exact hM.bel
          clear hK K
          try simp only [Act.put, List.setIfInBounds_toArray, List.set_cons_zero, List.set_cons_succ]
          refine inRound.take_one (hF := fun _ => trivial) (i := 8) rfl (by kernel_rfl) (fun K hK => ?_)
          · obtain ⟨zB, eB, hM⟩ := hM.put7
            go_simp
            first | rw [← eB] | rw [show (W1.alloc (.cells #[.slice none 0 0] 27)).drew = zB from eB.symm]
            clear eB
            try change PMk _ _ _ _ _ _ _ (some W1.heap.size) _ _ at hM
            refine hK.out _ _ ?_ (fun hHeld => ?_)
            · exact hM.bel
            clear hK K
            try simp only [Act.put, List.setIfInBounds_toArray, List.set_cons_zero, List.set_cons_succ]
            refine inRound.take_one (hF := fun _ => trivial) (i := 9) rfl (by kernel_rfl) (fun K hK => ?_)
            obtain ⟨x6, x7, hl6, zs, hfin⟩ := hM.fin
            have c6 := x6.cell
            have f6 := frozen_of_row _ _ 0 _ _ x6
            have c7 := x7.cell
            have f7 := frozen_of_row _ _ 0 _ _ x7
            replace hfin := hide_it hfin
            clear x6 x7
            go_simp
            refine hK.out _ _ ?_ (fun hHeld => ?_)
            · exact hl6
            clear hK K
            try simp only [Act.put, List.setIfInBounds_toArray, List.set_cons_zero, List.set_cons_succ]
            refine inRound.take_one (hF := fun _ => trivial) (i := 10) rfl (by kernel_rfl) (fun K hK => ?_)
            go_simp
            refine hK.out _ _ ?_ (fun hHeld => ?_)
            · exact hfin.out.bel
            clear hK K
            try simp only [Act.put, List.setIfInBounds_toArray, List.set_cons_zero, List.set_cons_succ]
            refine inRound.held_done (by kernel_rfl) ?_ _
            exact HREST.out _ _ _ _ _ _ _ _ hfin.out
        · obtain ⟨zB, eB, hM⟩ := hM.put7
          go_simp
          first | rw [← eB] | rw [show (W1.alloc (.cells #[.slice none 0 0] 27)).drew = zB from eB.symm]
          clear eB
          try change PMk _ _ _ _ _ _ _ (some W1.heap.size) _ _ at hM
          refine hK.out _ _ ?_ (fun hHeld => ?_)
          · exact hM.bel
          clear hK K
          try simp only [Act.put, List.setIfInBounds_toArray, List.set_cons_zero, List.set_cons_succ]
          refine inRound.take_one (hF := fun _ => trivial) (i := 6) rfl (by kernel_rfl) (fun K hK => ?_)
          · go_simp
            ((first | refine ⟨trivial, (fun h => by cases h), (callsIn_wide.2 (hps _ hM.bel)).mono ?_⟩ | refine ⟨(fun h => by cases h), (callsIn_wide.2 (hps _ hM.bel)).mono ?_⟩ | refine ⟨trivial, (callsIn_wide.2 (hps _ hM.bel)).mono ?_⟩); rintro e z2 ⟨⟨v2, zs2, rfl, ho2, hv2, hs2⟩, hb2⟩; obtain ⟨av, cv, rfl, _⟩ := OwnS.open ho2; replace hM := hM.addP (v := (av, zs2.length, cv)) hb2 ho2 hv2 hs2 rfl; clear hb2 ho2 hv2 hs2)
            try gi_wp2_with fail
            refine hK.out _ _ ?_ (fun hHeld => ?_)
            · exact hM.bel
            clear hK K
            try simp only [Act.put, List.setIfInBounds_toArray, List.set_cons_zero, List.set_cons_succ]
            refine inRound.take_one (hF := fun _ => trivial) (i := 9) rfl (by kernel_rfl) (fun K hK => ?_)
            obtain ⟨x6, x7, hl6, zs, hfin⟩ := hM.fin
            have c6 := x6.cell
            have f6 := frozen_of_row _ _ 0 _ _ x6
            have c7 := x7.cell
            have f7 := frozen_of_row _ _ 0 _ _ x7
            replace hfin := hide_it hfin
            clear x6 x7
            go_simp
            refine hK.out _ _ ?_ (fun hHeld => ?_)
            · exact hl6
            clear hK K
            try simp only [Act.put, List.setIfInBounds_toArray, List.set_cons_zero, List.set_cons_succ]
            refine inRound.take_one (hF := fun _ => trivial) (i := 10) rfl (by kernel_rfl) (fun K hK => ?_)
            go_simp
            refine hK.out _ _ ?_ (fun hHeld => ?_)
            · exact hfin.out.bel
            clear hK K
            try simp only [Act.put, List.setIfInBounds_toArray, List.set_cons_zero, List.set_cons_succ]
            refine inRound.held_done (by kernel_rfl) ?_ _
            exact HREST.out _ _ _ _ _ _ _ _ hfin.out
      · obtain ⟨zB, eB, hM⟩ := hM.put7
        go_simp
        first | rw [← eB] | rw [show (W1.alloc (.cells #[.slice none 0 0] 27)).drew = zB from eB.symm]
        clear eB
        try change PMk _ _ _ _ _ _ _ (some W1.heap.size) _ _ at hM
        refine hK.out _ _ ?_ (fun hHeld => ?_)
        · exact hM.bel
        clear hK K
        try simp only [Act.put, List.setIfInBounds_toArray, List.set_cons_zero, List.set_cons_succ]
        refine inRound.take_one (hF := fun _ => trivial) (i := 2) rfl (by kernel_rfl) (fun K hK => ?_)
        · go_simp
          ((first | refine ⟨trivial, (fun h => by cases h), (callsIn_wide.2 (clone_any mb (hcp _ hM.bel))).mono ?_⟩ | refine ⟨(fun h => by cases h), (callsIn_wide.2 (clone_any mb (hcp _ hM.bel))).mono ?_⟩ | refine ⟨trivial, (callsIn_wide.2 (clone_any mb (hcp _ hM.bel))).mono ?_⟩); rintro e z1 ⟨mc, rfl, hc1, hb1, hl1⟩; replace hM := hM.addC hb1 hc1 hl1; clear hb1 hc1 hl1)
          try gi_wp2_with fail
          refine hK.out _ _ ?_ (fun hHeld => ?_)
          · exact hM.bel
          clear hK K
          try simp only [Act.put, List.setIfInBounds_toArray, List.set_cons_zero, List.set_cons_succ]
          refine inRound.take_one (hF := fun _ => trivial) (i := 6) rfl (by kernel_rfl) (fun K hK => ?_)
          · go_simp
            ((first | refine ⟨trivial, (fun h => by cases h), (callsIn_wide.2 (hps _ hM.bel)).mono ?_⟩ | refine ⟨(fun h => by cases h), (callsIn_wide.2 (hps _ hM.bel)).mono ?_⟩ | refine ⟨trivial, (callsIn_wide.2 (hps _ hM.bel)).mono ?_⟩); rintro e z2 ⟨⟨v2, zs2, rfl, ho2, hv2, hs2⟩, hb2⟩; obtain ⟨av, cv, rfl, _⟩ := OwnS.open ho2; replace hM := hM.addP (v := (av, zs2.length, cv)) hb2 ho2 hv2 hs2 rfl; clear hb2 ho2 hv2 hs2)
            try gi_wp2_with fail
            refine hK.out _ _ ?_ (fun hHeld => ?_)
            · exact hM.bel
            clear hK K
            try simp only [Act.put, List.setIfInBounds_toArray, List.set_cons_zero, List.set_cons_succ]
            refine inRound.take_one (hF := fun _ => trivial) (i := 9) rfl (by kernel_rfl) (fun K hK => ?_)
            obtain ⟨x6, x7, hl6, zs, hfin⟩ := hM.fin
            have c6 := x6.cell
            have f6 := frozen_of_row _ _ 0 _ _ x6
            have c7 := x7.cell
            have f7 := frozen_of_row _ _ 0 _ _ x7
            replace hfin := hide_it hfin
            clear x6 x7
            go_simp
            refine hK.out _ _ ?_ (fun hHeld => ?_)
            · exact hl6
            clear hK K
            try simp only [Act.put, List.setIfInBounds_toArray, List.set_cons_zero, List.set_cons_succ]
            refine inRound.take_one (hF := fun _ => trivial) (i := 10) rfl (by kernel_rfl) (fun K hK => ?_)
            go_simp
            refine hK.out _ _ ?_ (fun hHeld => ?_)
            · exact hfin.out.bel
            clear hK K
            try simp only [Act.put, List.setIfInBounds_toArray, List.set_cons_zero, List.set_cons_succ]
            refine inRound.held_done (by kernel_rfl) ?_ _
            exact HREST.out _ _ _ _ _ _ _ _ hfin.out
    · obtain ⟨zB, eB, hM⟩ := hM.put7
      go_simp
      first | rw [← eB] | rw [show (W1.alloc (.cells #[.slice none 0 0] 27)).drew = zB from eB.symm]
      clear eB
      try change PMk _ _ _ _ _ _ _ (some W1.heap.size) _ _ at hM
      refine hK.out _ _ ?_ (fun hHeld => ?_)
      · exact hM.bel
      clear hK K
      try simp only [Act.put, List.setIfInBounds_toArray, List.set_cons_zero, List.set_cons_succ]
      refine inRound.take_one (hF := fun _ => trivial) (i := 1) rfl (by kernel_rfl) (fun K hK => ?_)
      · go_simp
        ((first | refine ⟨trivial, (fun h => by cases h), (callsIn_wide.2 (hall _ hM.bel)).mono ?_⟩ | refine ⟨(fun h => by cases h), (callsIn_wide.2 (hall _ hM.bel)).mono ?_⟩ | refine ⟨trivial, (callsIn_wide.2 (hall _ hM.bel)).mono ?_⟩); rintro e z0 ⟨rfl, hz0⟩; obtain rfl := hz0.symm; clear hz0)
        try gi_wp2_with fail
        refine hK.out _ _ ?_ (fun hHeld => ?_)
        · exact hM.bel
        clear hK K
        try simp only [Act.put, List.setIfInBounds_toArray, List.set_cons_zero, List.set_cons_succ]
        refine inRound.take_one (hF := fun _ => trivial) (i := 2) rfl (by kernel_rfl) (fun K hK => ?_)
        · go_simp
          ((first | refine ⟨trivial, (fun h => by cases h), (callsIn_wide.2 (clone_any mb (hcp _ hM.bel))).mono ?_⟩ | refine ⟨(fun h => by cases h), (callsIn_wide.2 (clone_any mb (hcp _ hM.bel))).mono ?_⟩ | refine ⟨trivial, (callsIn_wide.2 (clone_any mb (hcp _ hM.bel))).mono ?_⟩); rintro e z1 ⟨mc, rfl, hc1, hb1, hl1⟩; replace hM := hM.addC hb1 hc1 hl1; clear hb1 hc1 hl1)
          try gi_wp2_with fail
          refine hK.out _ _ ?_ (fun hHeld => ?_)
          · exact hM.bel
          clear hK K
          try simp only [Act.put, List.setIfInBounds_toArray, List.set_cons_zero, List.set_cons_succ]
          refine inRound.take_one (hF := fun _ => trivial) (i := 6) rfl (by kernel_rfl) (fun K hK => ?_)
          · go_simp
            ((first | refine ⟨trivial, (fun h => by cases h), (callsIn_wide.2 (hps _ hM.bel)).mono ?_⟩ | refine ⟨(fun h => by cases h), (callsIn_wide.2 (hps _ hM.bel)).mono ?_⟩ | refine ⟨trivial, (callsIn_wide.2 (hps _ hM.bel)).mono ?_⟩); rintro e z2 ⟨⟨v2, zs2, rfl, ho2, hv2, hs2⟩, hb2⟩; obtain ⟨av, cv, rfl, _⟩ := OwnS.open ho2; replace hM := hM.addP (v := (av, zs2.length, cv)) hb2 ho2 hv2 hs2 rfl; clear hb2 ho2 hv2 hs2)
            try gi_wp2_with fail
            refine hK.out _ _ ?_ (fun hHeld => ?_)
            · exact hM.bel
            clear hK K
            try simp only [Act.put, List.setIfInBounds_toArray, List.set_cons_zero, List.set_cons_succ]
            refine inRound.take_one (hF := fun _ => trivial) (i := 9) rfl (by kernel_rfl) (fun K hK => ?_)
            obtain ⟨x6, x7, hl6, zs, hfin⟩ := hM.fin
            have c6 := x6.cell
            have f6 := frozen_of_row _ _ 0 _ _ x6
            have c7 := x7.cell
            have f7 := frozen_of_row _ _ 0 _ _ x7
            replace hfin := hide_it hfin
            clear x6 x7
            go_simp
            refine hK.out _ _ ?_ (fun hHeld => ?_)
            · exact hl6
            clear hK K
            try simp only [Act.put, List.setIfInBounds_toArray, List.set_cons_zero, List.set_cons_succ]
            refine inRound.take_one (hF := fun _ => trivial) (i := 10) rfl (by kernel_rfl) (fun K hK => ?_)
            go_simp
            refine hK.out _ _ ?_ (fun hHeld => ?_)
            · exact hfin.out.bel
            clear hK K
            try simp only [Act.put, List.setIfInBounds_toArray, List.set_cons_zero, List.set_cons_succ]
            refine inRound.held_done (by kernel_rfl) ?_ _
            exact HREST.out _ _ _ _ _ _ _ _ hfin.out
  · obtain ⟨zB, eB, hM⟩ := hM.put7
    go_simp
    first | rw [← eB] | rw [show (W1.alloc (.cells #[.slice none 0 0] 27)).drew = zB from eB.symm]
    clear eB
    try change PMk _ _ _ _ _ _ _ (some W1.heap.size) _ _ at hM
    refine hK.out _ _ ?_ (fun hHeld => ?_)
    · exact hM.bel
    clear hK K
    try simp only [Act.put, List.setIfInBounds_toArray, List.set_cons_zero, List.set_cons_succ]
    refine inRound.take_two (hF := fun _ => trivial) (i := 1) (j := 7) rfl rfl (by kernel_rfl) (fun K hK => ?_) (fun K hK => ?_)
    · go_simp
      ((first | refine ⟨trivial, (fun h => by cases h), (callsIn_wide.2 (hall _ hM.bel)).mono ?_⟩ | refine ⟨(fun h => by cases h), (callsIn_wide.2 (hall _ hM.bel)).mono ?_⟩ | refine ⟨trivial, (callsIn_wide.2 (hall _ hM.bel)).mono ?_⟩); rintro e z0 ⟨rfl, hz0⟩; obtain rfl := hz0.symm; clear hz0)
      try gi_wp2_with fail
      refine hK.out _ _ ?_ (fun hHeld => ?_)
      · exact hM.bel
      clear hK K
      try simp only [Act.put, List.setIfInBounds_toArray, List.set_cons_zero, List.set_cons_succ]
      refine inRound.take_two (hF := fun _ => trivial) (i := 2) (j := 7) rfl rfl (by kernel_rfl) (fun K hK => ?_) (fun K hK => ?_)
      · go_simp
        ((first | refine ⟨trivial, (fun h => by cases h), (callsIn_wide.2 (clone_any mb (hcp _ hM.bel))).mono ?_⟩ | refine ⟨(fun h => by cases h), (callsIn_wide.2 (clone_any mb (hcp _ hM.bel))).mono ?_⟩ | refine ⟨trivial, (callsIn_wide.2 (clone_any mb (hcp _ hM.bel))).mono ?_⟩); rintro e z1 ⟨mc, rfl, hc1, hb1, hl1⟩; replace hM := hM.addC hb1 hc1 hl1; clear hb1 hc1 hl1)
        try gi_wp2_with fail
        refine hK.out _ _ ?_ (fun hHeld => ?_)
        · exact hM.bel
        clear hK K
        try simp only [Act.put, List.setIfInBounds_toArray, List.set_cons_zero, List.set_cons_succ]
        refine inRound.take_two (hF := fun _ => trivial) (i := 6) (j := 7) rfl rfl (by kernel_rfl) (fun K hK => ?_) (fun K hK => ?_)
        · go_simp
          ((first | refine ⟨trivial, (fun h => by cases h), (callsIn_wide.2 (hps _ hM.bel)).mono ?_⟩ | refine ⟨(fun h => by cases h), (callsIn_wide.2 (hps _ hM.bel)).mono ?_⟩ | refine ⟨trivial, (callsIn_wide.2 (hps _ hM.bel)).mono ?_⟩); rintro e z2 ⟨⟨v2, zs2, rfl, ho2, hv2, hs2⟩, hb2⟩; obtain ⟨av, cv, rfl, _⟩ := OwnS.open ho2; replace hM := hM.addP (v := (av, zs2.length, cv)) hb2 ho2 hv2 hs2 rfl; clear hb2 ho2 hv2 hs2)
          try gi_wp2_with fail
          refine hK.out _ _ ?_ (fun hHeld => ?_)
          · exact hM.bel
          clear hK K
          try simp only [Act.put, List.setIfInBounds_toArray, List.set_cons_zero, List.set_cons_succ]
          refine inRound.take_one (hF := fun _ => trivial) (i := 7) rfl (by kernel_rfl) (fun K hK => ?_)
          · obtain ⟨zA, eA, hM⟩ := hM.put6
            go_simp
            first | rw [← eA] | rw [show (W1.alloc (.cells #[.map none] 30)).drew = zA from eA.symm]
            clear eA
            try change PMk _ _ _ _ _ _ (some W1.heap.size) _ _ _ at hM
            refine hK.out _ _ ?_ (fun hHeld => ?_)
            · exact hM.bel
            clear hK K
            try simp only [Act.put, List.setIfInBounds_toArray, List.set_cons_zero, List.set_cons_succ]
            refine inRound.take_one (hF := fun _ => trivial) (i := 9) rfl (by kernel_rfl) (fun K hK => ?_)
            obtain ⟨x6, x7, hl6, zs, hfin⟩ := hM.fin
            have c6 := x6.cell
            have f6 := frozen_of_row _ _ 0 _ _ x6
            have c7 := x7.cell
            have f7 := frozen_of_row _ _ 0 _ _ x7
            replace hfin := hide_it hfin
            clear x6 x7
            go_simp
            refine hK.out _ _ ?_ (fun hHeld => ?_)
            · exact hl6
            clear hK K
            try simp only [Act.put, List.setIfInBounds_toArray, List.set_cons_zero, List.set_cons_succ]
            refine inRound.take_one (hF := fun _ => trivial) (i := 10) rfl (by kernel_rfl) (fun K hK => ?_)
            go_simp
            refine hK.out _ _ ?_ (fun hHeld => ?_)
            · exact hfin.out.bel
            clear hK K
            try simp only [Act.put, List.setIfInBounds_toArray, List.set_cons_zero, List.set_cons_succ]
            refine inRound.held_done (by kernel_rfl) ?_ _
            exact HREST.out _ _ _ _ _ _ _ _ hfin.out
        · obtain ⟨zA, eA, hM⟩ := hM.put6
          go_simp
          first | rw [← eA] | rw [show (W1.alloc (.cells #[.map none] 30)).drew = zA from eA.symm]
          clear eA
          try change PMk _ _ _ _ _ _ (some W1.heap.size) _ _ _ at hM
          refine hK.out _ _ ?_ (fun hHeld => ?_)
          · exact hM.bel
          clear hK K
          try simp only [Act.put, List.setIfInBounds_toArray, List.set_cons_zero, List.set_cons_succ]
          refine inRound.take_one (hF := fun _ => trivial) (i := 6) rfl (by kernel_rfl) (fun K hK => ?_)
          · go_simp
            ((first | refine ⟨trivial, (fun h => by cases h), (callsIn_wide.2 (hps _ hM.bel)).mono ?_⟩ | refine ⟨(fun h => by cases h), (callsIn_wide.2 (hps _ hM.bel)).mono ?_⟩ | refine ⟨trivial, (callsIn_wide.2 (hps _ hM.bel)).mono ?_⟩); rintro e z2 ⟨⟨v2, zs2, rfl, ho2, hv2, hs2⟩, hb2⟩; obtain ⟨av, cv, rfl, _⟩ := OwnS.open ho2; replace hM := hM.addP (v := (av, zs2.length, cv)) hb2 ho2 hv2 hs2 rfl; clear hb2 ho2 hv2 hs2)
            try gi_wp2_with fail
            refine hK.out _ _ ?_ (fun hHeld => ?_)
            · exact hM.bel
            clear hK K
            try simp only [Act.put, List.setIfInBounds_toArray, List.set_cons_zero, List.set_cons_succ]
            refine inRound.take_one (hF := fun _ => trivial) (i := 9) rfl (by kernel_rfl) (fun K hK => ?_)
            obtain ⟨x6, x7, hl6, zs, hfin⟩ := hM.fin
            have c6 := x6.cell
            have f6 := frozen_of_row _ _ 0 _ _ x6
            have c7 := x7.cell
            have f7 := frozen_of_row _ _ 0 _ _ x7
            replace hfin := hide_it hfin
            clear x6 x7
            go_simp
            refine hK.out _ _ ?_ (fun hHeld => ?_)
            · exact hl6
            clear hK K
            try simp only [Act.put, List.setIfInBounds_toArray, List.set_cons_zero, List.set_cons_succ]
            refine inRound.take_one (hF := fun _ => trivial) (i := 10) rfl (by kernel_rfl) (fun K hK => ?_)
            go_simp
            refine hK.out _ _ ?_ (fun hHeld => ?_)
            · exact hfin.out.bel
            clear hK K
            try simp only [Act.put, List.setIfInBounds_toArray, List.set_cons_zero, List.set_cons_succ]
            refine inRound.held_done (by kernel_rfl) ?_ _
            exact HREST.out _ _ _ _ _ _ _ _ hfin.out
      · obtain ⟨zA, eA, hM⟩ := hM.put6
        go_simp
        first | rw [← eA] | rw [show (W1.alloc (.cells #[.map none] 30)).drew = zA from eA.symm]
        clear eA
        try change PMk _ _ _ _ _ _ (some W1.heap.size) _ _ _ at hM
        refine hK.out _ _ ?_ (fun hHeld => ?_)
        · exact hM.bel
        clear hK K
        try simp only [Act.put, List.setIfInBounds_toArray, List.set_cons_zero, List.set_cons_succ]
        refine inRound.take_one (hF := fun _ => trivial) (i := 2) rfl (by kernel_rfl) (fun K hK => ?_)
        · go_simp
          ((first | refine ⟨trivial, (fun h => by cases h), (callsIn_wide.2 (clone_any mb (hcp _ hM.bel))).mono ?_⟩ | refine ⟨(fun h => by cases h), (callsIn_wide.2 (clone_any mb (hcp _ hM.bel))).mono ?_⟩ | refine ⟨trivial, (callsIn_wide.2 (clone_any mb (hcp _ hM.bel))).mono ?_⟩); rintro e z1 ⟨mc, rfl, hc1, hb1, hl1⟩; replace hM := hM.addC hb1 hc1 hl1; clear hb1 hc1 hl1)
          try gi_wp2_with fail
          refine hK.out _ _ ?_ (fun hHeld => ?_)
          · exact hM.bel
          clear hK K
          try simp only [Act.put, List.setIfInBounds_toArray, List.set_cons_zero, List.set_cons_succ]
          refine inRound.take_one (hF := fun _ => trivial) (i := 6) rfl (by kernel_rfl) (fun K hK => ?_)
          · go_simp
            ((first | refine ⟨trivial, (fun h => by cases h), (callsIn_wide.2 (hps _ hM.bel)).mono ?_⟩ | refine ⟨(fun h => by cases h), (callsIn_wide.2 (hps _ hM.bel)).mono ?_⟩ | refine ⟨trivial, (callsIn_wide.2 (hps _ hM.bel)).mono ?_⟩); rintro e z2 ⟨⟨v2, zs2, rfl, ho2, hv2, hs2⟩, hb2⟩; obtain ⟨av, cv, rfl, _⟩ := OwnS.open ho2; replace hM := hM.addP (v := (av, zs2.length, cv)) hb2 ho2 hv2 hs2 rfl; clear hb2 ho2 hv2 hs2)
            try gi_wp2_with fail
            refine hK.out _ _ ?_ (fun hHeld => ?_)
            · exact hM.bel
            clear hK K
            try simp only [Act.put, List.setIfInBounds_toArray, List.set_cons_zero, List.set_cons_succ]
            refine inRound.take_one (hF := fun _ => trivial) (i := 9) rfl (by kernel_rfl) (fun K hK => ?_)
            obtain ⟨x6, x7, hl6, zs, hfin⟩ := hM.fin
            have c6 := x6.cell
            have f6 := frozen_of_row _ _ 0 _ _ x6
            have c7 := x7.cell
            have f7 := frozen_of_row _ _ 0 _ _ x7
            replace hfin := hide_it hfin
            clear x6 x7
            go_simp
            refine hK.out _ _ ?_ (fun hHeld => ?_)
            · exact hl6
            clear hK K
            try simp only [Act.put, List.setIfInBounds_toArray, List.set_cons_zero, List.set_cons_succ]
            refine inRound.take_one (hF := fun _ => trivial) (i := 10) rfl (by kernel_rfl) (fun K hK => ?_)
            go_simp
            refine hK.out _ _ ?_ (fun hHeld => ?_)
            · exact hfin.out.bel
            clear hK K
            try simp only [Act.put, List.setIfInBounds_toArray, List.set_cons_zero, List.set_cons_succ]
            refine inRound.held_done (by kernel_rfl) ?_ _
            exact HREST.out _ _ _ _ _ _ _ _ hfin.out
    · obtain ⟨zA, eA, hM⟩ := hM.put6
      go_simp
      first | rw [← eA] | rw [show (W1.alloc (.cells #[.map none] 30)).drew = zA from eA.symm]
      clear eA
      try change PMk _ _ _ _ _ _ (some W1.heap.size) _ _ _ at hM
      refine hK.out _ _ ?_ (fun hHeld => ?_)
      · exact hM.bel
      clear hK K
      try simp only [Act.put, List.setIfInBounds_toArray, List.set_cons_zero, List.set_cons_succ]
      refine inRound.take_one (hF := fun _ => trivial) (i := 1) rfl (by kernel_rfl) (fun K hK => ?_)
      · go_simp
        ((first | refine ⟨trivial, (fun h => by cases h), (callsIn_wide.2 (hall _ hM.bel)).mono ?_⟩ | refine ⟨(fun h => by cases h), (callsIn_wide.2 (hall _ hM.bel)).mono ?_⟩ | refine ⟨trivial, (callsIn_wide.2 (hall _ hM.bel)).mono ?_⟩); rintro e z0 ⟨rfl, hz0⟩; obtain rfl := hz0.symm; clear hz0)
        try gi_wp2_with fail
        refine hK.out _ _ ?_ (fun hHeld => ?_)
        · exact hM.bel
        clear hK K
        try simp only [Act.put, List.setIfInBounds_toArray, List.set_cons_zero, List.set_cons_succ]
        refine inRound.take_one (hF := fun _ => trivial) (i := 2) rfl (by kernel_rfl) (fun K hK => ?_)
        · go_simp
          ((first | refine ⟨trivial, (fun h => by cases h), (callsIn_wide.2 (clone_any mb (hcp _ hM.bel))).mono ?_⟩ | refine ⟨(fun h => by cases h), (callsIn_wide.2 (clone_any mb (hcp _ hM.bel))).mono ?_⟩ | refine ⟨trivial, (callsIn_wide.2 (clone_any mb (hcp _ hM.bel))).mono ?_⟩); rintro e z1 ⟨mc, rfl, hc1, hb1, hl1⟩; replace hM := hM.addC hb1 hc1 hl1; clear hb1 hc1 hl1)
          try gi_wp2_with fail
          refine hK.out _ _ ?_ (fun hHeld => ?_)
          · exact hM.bel
          clear hK K
          try simp only [Act.put, List.setIfInBounds_toArray, List.set_cons_zero, List.set_cons_succ]
          refine inRound.take_one (hF := fun _ => trivial) (i := 6) rfl (by kernel_rfl) (fun K hK => ?_)
          · go_simp
            ((first | refine ⟨trivial, (fun h => by cases h), (callsIn_wide.2 (hps _ hM.bel)).mono ?_⟩ | refine ⟨(fun h => by cases h), (callsIn_wide.2 (hps _ hM.bel)).mono ?_⟩ | refine ⟨trivial, (callsIn_wide.2 (hps _ hM.bel)).mono ?_⟩); rintro e z2 ⟨⟨v2, zs2, rfl, ho2, hv2, hs2⟩, hb2⟩; obtain ⟨av, cv, rfl, _⟩ := OwnS.open ho2; replace hM := hM.addP (v := (av, zs2.length, cv)) hb2 ho2 hv2 hs2 rfl; clear hb2 ho2 hv2 hs2)
            try gi_wp2_with fail
            refine hK.out _ _ ?_ (fun hHeld => ?_)
            · exact hM.bel
            clear hK K
            try simp only [Act.put, List.setIfInBounds_toArray, List.set_cons_zero, List.set_cons_succ]
            refine inRound.take_one (hF := fun _ => trivial) (i := 9) rfl (by kernel_rfl) (fun K hK => ?_)
            obtain ⟨x6, x7, hl6, zs, hfin⟩ := hM.fin
            have c6 := x6.cell
            have f6 := frozen_of_row _ _ 0 _ _ x6
            have c7 := x7.cell
            have f7 := frozen_of_row _ _ 0 _ _ x7
            replace hfin := hide_it hfin
            clear x6 x7
            go_simp
            refine hK.out _ _ ?_ (fun hHeld => ?_)
            · exact hl6
            clear hK K
            try simp only [Act.put, List.setIfInBounds_toArray, List.set_cons_zero, List.set_cons_succ]
            refine inRound.take_one (hF := fun _ => trivial) (i := 10) rfl (by kernel_rfl) (fun K hK => ?_)
            go_simp
            refine hK.out _ _ ?_ (fun hHeld => ?_)
            · exact hfin.out.bel
            clear hK K
            try simp only [Act.put, List.setIfInBounds_toArray, List.set_cons_zero, List.set_cons_succ]
            refine inRound.held_done (by kernel_rfl) ?_ _
            exact HREST.out _ _ _ _ _ _ _ _ hfin.out

end Go.Proofs.Ytbafjkanbbcbgaa
