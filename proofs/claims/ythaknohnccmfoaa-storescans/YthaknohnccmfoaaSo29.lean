/- What a scan tells: pair behind pair. -/
import Derived.Test.YthaknohnccmfoaaSo28
import Derived.Test.YthaknohnccmfoaaSo21
import Derived.Test.YthaknohnccmfoaaRg4
import Derived.RangeFuncBound
namespace Go.Proofs.Ythaknohnccmfoaa
open Go.RowKit Go.Maps Go.Shelf

attribute [local go_sem] Oper.semAt_some

theorem found_any {w : World} {F : Nat → Prop} {s : Nat} {mb : Option Nat} {M : List Ky} (h : Sto w F s mb M) (hf : Fine (abs M)) (fr to : ByteArray) (n : Int) :
    Calls Try.prog 54 #[.pointer (some ⟨s, 0, none⟩), .string fr, .string to, .int .i64 n] w fun e w' => (∃ v zs, e = .returned v ∧ OwP w' w.heap.size v zs ∧ (∀ y ∈ zs, ValF w F y) ∧ saysP zs = scanA (abs M) fr.data.toList to.data.toList n) ∧ Below w.heap.size w w' := by
  cases mb with
  | some b => exact found_some h hf fr to n
  | none =>
    obtain rfl := h.nomap rfl
    refine (found_nil _ fr to n w (all_any h)).mono ?_
    rintro e w' ⟨rfl, hb⟩
    exact ⟨⟨_, [], rfl, OwnS.nil _ _ _ _, (fun y hy => by cases hy), rfl⟩, hb⟩

/-- A pair that is handed over, and what must be kept while it is. -/
structure Sc where
  p : Pn
  S : Nat → Prop
def KpC (S : Nat → Prop) (W W' : World) : Prop := W.heap.size ≤ W'.heap.size ∧ ∀ j cur t fr, S j → W.heap[j]? = some (.cells cur t fr) → W'.heap[j]? = some (.cells cur t fr)
theorem KpC.trans {S : Nat → Prop} {A B C : World} (h : KpC S A B) (k : KpC S B C) : KpC S A C := ⟨Nat.le_trans h.1 k.1, fun j cur t fr hs hj => k.2 j cur t fr hs (h.2 j cur t fr hs hj)⟩
theorem KpC.of_below {S : Nat → Prop} {W W' : World} (h : Below W.heap.size W W') : KpC S W W' := ⟨h.size, fun j _ _ _ _ hj => (h.block j (Array.getElem?_eq_some_iff.1 hj).1).trans hj⟩
theorem KpC.less {S S' : Nat → Prop} {W W' : World} (h : KpC S W W') (hs : ∀ j, S' j → S j) : KpC S' W W' := ⟨h.1, fun j cur t fr h1 h2 => h.2 j cur t fr (hs j h1) h2⟩
/-- What is known of a pair that is handed over. -/
structure GS (F : Nat → Prop) (B0 : Nat) (pre : List Sc) (x : Sc) (X W : World) : Prop where
  b : OwnB W X.heap.size (.slice x.p.a x.p.z.length x.p.c) x.p.z
  s : ∀ j, x.S j → j < W.heap.size ∧ ((F j ∧ ∃ cur, W.heap[j]? = some (.cells cur 5 (0, 0))) ∨ B0 ≤ j)
  same : ∀ y ∈ pre, ∀ j, x.S j → y.S j ∨ X.heap.size ≤ j
  cnt : pre.length < 4000000000000
def saysS (xs : List Sc) : List (List UInt8 × List Nat) := xs.map fun x => (x.p.k.data.toList, x.p.z)

set_option maxRecDepth 100000 in
set_option maxHeartbeats 4000000 in
theorem walkS_any (m l B B0 : Nat) {F : Nat → Prop} (p : Option Addr) (fr to : ByteArray) (n : Int) (tells : List (List UInt8 × List Nat)) (W : World) (hm : 1 ≤ m) (hs : Sc4 W B p fr to n) (hFl : ∀ j, F j → j < W.heap.size) (hB0 : B0 ≤ W.heap.size) (htl : tells.length ≤ 4000000000000) (htz : ∀ t ∈ tells, t.2.length ≤ 4096)
    (hf : Calls Try.prog 54 #[.pointer p, .string fr, .string to, .int .i64 n] W fun e w' => (∃ v zs, e = .returned v ∧ OwP w' W.heap.size v zs ∧ (∀ y ∈ zs, ValF W F y) ∧ saysP zs = tells) ∧ Below W.heap.size W w')
    (J Jx : List Sc → World → Prop)
    (hY : ∀ pre x X W1, J pre X → Below X.heap.size X W1 → GS F B0 pre x X W1 → YieldAt Fence.wide (m - 1) Try.prog l #[.agg #[.string x.p.k, .slice x.p.a x.p.z.length x.p.c]] W1 fun e W' => (e = .returned (.bool true) ∧ J (pre ++ [x]) W' ∧ KpC x.S W1 W') ∨ (e = .returned (.bool false) ∧ Jx (pre ++ [x]) W' ∧ KpC x.S W1 W'))
    (hJ0 : J [] W) :
    CallsIn Fence.wide m Try.prog 53 #[.func (.yield l) #[] #[], .pointer (some ⟨B, 0, none⟩), .pointer (some ⟨B + 1, 0, none⟩), .pointer (some ⟨B + 2, 0, none⟩), .pointer (some ⟨B + 3, 0, none⟩)] W fun e W' => (∃ v, e = .returned v) ∧
      ((∃ xs X, saysS xs = tells ∧ J xs X ∧ Below X.heap.size X W') ∨ (∃ pre X, True ∧ Jx pre X ∧ Below X.heap.size X W')) := by
  have c0 := hs.b0.cell
  have c1 := hs.b1.cell
  have c2 := hs.b2.cell
  have c3 := hs.b3.cell
  have HY := hide_it hY
  have HJ0 := hide_it hJ0
  have HFL := hide_it hFl
  have HTZ := hide_it htz
  have HTL := hide_it htl
  clear hs hY hJ0 hFl htz htl
  refine callsIn_of_wp Try.func53 rfl trivial ?_ rfl
  simp only [Try.ntmps53, List.size_toArray, List.length_cons, List.length_nil, Nat.reduceAdd, Nat.reduceSub, Array.replicate_succ, Array.replicate_zero, List.push_toArray, List.append_toArray, List.nil_append, List.cons_append]
  gi_wp2_with fail
  refine ⟨trivial, (callsIn_wide.2 hf).mono ?_⟩
  rintro e w1 ⟨⟨v, zs, rfl, ho, hv, hsy⟩, hb⟩
  obtain ⟨av, cv, rfl, _⟩ := OwnS.open ho
  obtain ⟨S0, hS0⟩ : ∃ S0 : Nat → Prop, S0 = fun j => (∃ y ∈ zs, (Value.slice y.a y.z.length y.c).ownBlock = some j) ∨ (Value.slice av zs.length cv).ownBlock = some j := ⟨_, rfl⟩
  have hv1 : ∀ y ∈ zs, OwnB w1 0 (.slice y.a y.z.length y.c) y.z := fun y hy => (hv y hy).b.below hb
  have hrow : ∀ z, KpC S0 w1 z → RowP z (.slice av zs.length cv) zs := fun z hz =>
    ⟨OwnS.mono (OwnS.keep ho fun j hj => by
      obtain ⟨cur, h5⟩ := OwnS.type ho hj
      rw [h5]; exact hz.2 j _ _ _ (by rw [hS0]; exact .inr hj) h5) (Nat.zero_le _), fun y hy => (hv1 y hy).hold fun j hj => by
      obtain ⟨cur, h5⟩ := (hv1 y hy).typed hj
      rw [h5]; exact hz.2 j _ _ _ (by rw [hS0]; exact .inl ⟨y, hy, hj⟩) h5⟩
  have hSl : ∀ j, S0 j → j < w1.heap.size ∧ ((F j ∧ ∃ cur, w1.heap[j]? = some (.cells cur 5 (0, 0))) ∨ B0 ≤ j) := fun j hj => by
    rw [hS0] at hj
    rcases hj with ⟨y, hy, hj⟩ | hj
    · obtain ⟨cur, h5⟩ := (hv1 y hy).typed hj
      exact ⟨(Array.getElem?_eq_some_iff.1 h5).1, .inl ⟨(hv y hy).f j hj, cur, h5⟩⟩
    · obtain ⟨h5, h6⟩ := OwnS.inside ho j hj
      exact ⟨h6, .inr (by omega)⟩
  have hSt : ∀ j, S0 j → ∃ cur t, w1.heap[j]? = some (.cells cur t (0, 0)) := fun j hj => by
    rw [hS0] at hj
    rcases hj with ⟨y, hy, hj⟩ | hj
    · obtain ⟨cur, h5⟩ := (hv1 y hy).typed hj; exact ⟨_, _, h5⟩
    · obtain ⟨cur, h5⟩ := OwnS.type ho hj; exact ⟨_, _, h5⟩
  obtain ⟨N, hN⟩ : ∃ N, N = zs.length := ⟨_, rfl⟩
  have hNt : N = tells.length := by rw [← hsy]; unfold saysP; rw [List.length_map]; exact hN
  have hNl : N ≤ 4000000000000 := by rw [hNt]; exact HTL.out
  rw [← hN] at hrow ⊢
  have HROW := hide_it hrow
  have HSL := hide_it hSl
  have HST := hide_it hSt
  have HN := hide_it hN
  have HNT := hide_it hNt
  have HSY := hide_it hsy
  have HB := hide_it hb
  clear hf hb c0 c1 c2 c3 hrow hSl hSt hN hNt hsy hv1 hv ho hS0
  gi_wp2
  gi_loopw [14, 7] (fun i _ wr => ∃ k : Nat, k ≤ N ∧ i = .int .i64 (k : Int) ∧ Hid (∃ pre X, J pre X ∧ Below X.heap.size X wr ∧ saysS pre = tells.take k ∧ ∀ y ∈ pre, ∀ j, S0 j → y.S j) ∧ Hid (KpC S0 w1 wr)) (fun i _ _ => N - (intOf i).toNat)
  case atStart => exact ⟨0, by omega, rfl, hide_it ⟨[], W, HJ0.out, HB.out, rfl, fun y hy => by cases hy⟩, hide_it ⟨Nat.le_refl _, fun _ _ _ _ _ h => h⟩⟩
  case round =>
    obtain ⟨k, hk, rfl, HJ, HK⟩ := hrel
    by_cases hlt : k < N
    · have hki : (k : Int) < (N : Int) := by omega
      have hw1 : IntKind.i64.wrap ((k : Int) + 1) = (k : Int) + 1 := i64_in (by omega) (by omega)
      have hr1 := HROW.out wr HK.out
      obtain ⟨g, o, cap, ev, hg, hcap, d0, d1⟩ := hr1.here (i := k) (by rw [← HN.out]; exact hlt)
      rw [← HN.out] at ev hcap
      have hkz : k < zs.length := by rw [← HN.out]; exact hlt
      have hval := hr1.val (pn zs k) (by rw [← pn_get hkz]; exact List.getElem_mem hkz)
      have htk : tells[k]? = some ((pn zs k).k.data.toList, (pn zs k).z) := by
        rw [← HSY.out]; unfold saysP
        rw [List.getElem?_map, List.getElem?_eq_getElem hkz, pn_get hkz]; rfl
      have hzl : (pn zs k).z.length ≤ 4096 := HTZ.out _ (List.mem_of_getElem? htk)
      cases ev
      generalize pn zs k = y at *
      obtain ⟨W3, hW3⟩ : ∃ W3, W3 = wr.alloc (.cells #[.string y.k, .slice y.a y.z.length y.c] 60) := ⟨_, rfl⟩
      have hb3 : Below wr.heap.size wr W3 := by rw [hW3]; exact (Below.refl _ _).alloc (Nat.le_refl _) _
      have k0 : W3.heap[wr.heap.size]? = some (.cells #[.string y.k, .slice y.a y.z.length y.c] 60 (0, 0)) := by rw [hW3]; exact heap_alloc_new wr _
      have hz3 : W3.heap.size = wr.heap.size + 1 := by rw [hW3]; simp
      obtain ⟨ya, yc, ey, hyr, _, _, hyn⟩ := hval.row
      cases ey
      have hcl := bclone_any y.a y.c y.z W3.drew ((hyr.below hb3).below (Below.refl _ _).drew) (by omega) hyn
      obtain ⟨pre, X, hJ, hXb, hpr, hps⟩ := HJ.out
      have hcnt : pre.length < 4000000000000 := by
        have h1 := congrArg List.length hpr
        unfold saysS at h1
        rw [List.length_map, List.length_take] at h1
        omega
      have hyz : ∀ z1, Below W3.heap.size W3 z1 → ∀ a9 c9, OwnB z1 W3.heap.size (.slice a9 y.z.length c9) y.z → YieldAt Fence.wide (m - 1) Try.prog l #[.agg #[.string y.k, .slice a9 y.z.length c9]] z1 fun e W' => ∃ bb, e = .returned (.bool bb) ∧ W'.heap[wr.heap.size]? = W3.heap[wr.heap.size]? ∧ KpC S0 w1 W' ∧ ((bb = true ∧ ∃ pre X, J pre X ∧ Below X.heap.size X W' ∧ saysS pre = tells.take (k + 1) ∧ ∀ y ∈ pre, ∀ j, S0 j → y.S j) ∨ (bb = false ∧ ∃ pre, Jx pre W')) := fun z1 hz1 a9 c9 hv9 => by
        have hXz : Below X.heap.size X z1 := hXb.trans ((hb3.trans (hz1.mono hb3.size)).mono hXb.size)
        have hXs := hXb.size
        have hzs1 := hz1.size
        have hwz := HK.out.1
        have kz : KpC S0 wr z1 := KpC.of_below (hb3.trans (hz1.mono hb3.size))
        refine (HY.out pre ⟨⟨y.k, a9, y.z, c9⟩, fun j => S0 j ∨ j = wr.heap.size⟩ X z1 hJ hXz ⟨hv9.mono (by omega), fun j hj => ?_, fun x hx j hj => ?_, hcnt⟩).mono ?_
        · rcases hj with hj | rfl
          · obtain ⟨h1, h2⟩ := HSL.out j hj
            refine ⟨by omega, ?_⟩
            rcases h2 with ⟨h2, cur, h3⟩ | h2
            · exact .inl ⟨h2, cur, kz.2 j _ _ _ hj (HK.out.2 j _ _ _ hj h3)⟩
            · exact .inr h2
          · refine ⟨by omega, .inr ?_⟩
            have := HB.out.size
            omega
        · rcases hj with hj | rfl
          · exact .inl (hps x hx j hj)
          · exact .inr hXs
        · have keep : ∀ W', KpC (fun j => S0 j ∨ j = wr.heap.size) z1 W' → W'.heap[wr.heap.size]? = W3.heap[wr.heap.size]? ∧ KpC S0 w1 W' := fun W' hk => by
            refine ⟨?_, HK.out.trans (kz.trans (hk.less fun _ => .inl))⟩
            have h4 : z1.heap[wr.heap.size]? = _ := (hz1.block wr.heap.size (by omega)).trans k0
            rw [hk.2 _ _ _ _ (.inr rfl) h4, k0]
          rintro e W' (⟨rfl, hj2, hk2⟩ | ⟨rfl, hj2, hk2⟩)
          · obtain ⟨q1, q2⟩ := keep W' hk2
            refine ⟨true, rfl, q1, q2, .inl ⟨rfl, _, W', hj2, Below.refl _ _, ?_, fun x hx => ?_⟩⟩
            · unfold saysS at hpr ⊢
              rw [List.map_append, hpr]
              have h1 : k < tells.length := (List.getElem?_eq_some_iff.1 htk).1
              rw [List.take_succ_eq_append_getElem h1]
              congr 1
              have := (List.getElem?_eq_some_iff.1 htk).2
              rw [this]; rfl
            · rcases List.mem_append.1 hx with hx | hx
              · exact hps x hx
              · obtain rfl := List.mem_singleton.1 hx; exact fun j hj => .inl hj
          · obtain ⟨q1, q2⟩ := keep W' hk2
            exact ⟨false, rfl, q1, q2, .inr ⟨rfl, _, hj2⟩⟩
      have HYZ := hide_it hyz
      clear hyz hJ hXb hpr hps htk hzl hval hyr hyn hr1 HJ HY HTZ HTL HSL HST
      gi_wp2_with fail
      rw [← hW3]
      clear hW3 d0 d1
      have hl0 : wr.heap.size < W3.heap.size := by omega
      refine inRound.region_held (S := (fun w' => w'.heap[wr.heap.size]? = W3.heap[wr.heap.size]?)) (by kernel_rfl) ?_ (fun hHeld => ?_)
      · rfl
      refine inRound.take_on (hF := fun _ => trivial) (hpl := by kernel_rfl) (i := 0) (v := ?_) rfl rfl (by kernel_rfl) (by kernel_rfl) (by kernel_rfl) (fun _ _ _ h => h) rfl ?_ hHeld ?_
      rotate_left
      · (intro wq hSq; have xk := hSq.trans k0; have s0 := cell_of_row _ _ 0 _ _ _ xk; have s1 := cell_of_row _ _ 1 _ _ _ xk; go_simp <;> first | with_reducible rfl | rfl)
      simp only [Act.put, List.setIfInBounds_toArray, List.set_cons_zero, List.set_cons_succ]
      refine inRound.take_on (hF := fun _ => trivial) (hpl := by kernel_rfl) (i := 1) (v := ?_) rfl rfl (by kernel_rfl) (by kernel_rfl) (by kernel_rfl) (fun _ _ _ h => h) rfl ?_ hHeld ?_
      rotate_left
      · (intro wq hSq; have xk := hSq.trans k0; have s0 := cell_of_row _ _ 0 _ _ _ xk; have s1 := cell_of_row _ _ 1 _ _ _ xk; go_simp <;> first | with_reducible rfl | rfl)
      simp only [Act.put, List.setIfInBounds_toArray, List.set_cons_zero, List.set_cons_succ]
      refine inRound.take_on (hF := fun _ => trivial) (hpl := by kernel_rfl) (i := 2) (v := ?_) rfl rfl (by kernel_rfl) (by kernel_rfl) (by kernel_rfl) (fun _ _ _ h => h) rfl ?_ hHeld ?_
      rotate_left
      · (intro wq hSq; have xk := hSq.trans k0; have s0 := cell_of_row _ _ 0 _ _ _ xk; have s1 := cell_of_row _ _ 1 _ _ _ xk; go_simp <;> first | with_reducible rfl | rfl)
      simp only [Act.put, List.setIfInBounds_toArray, List.set_cons_zero, List.set_cons_succ]
      refine inRound.take_on (hF := fun _ => trivial) (hpl := by kernel_rfl) (i := 3) (v := ?_) rfl rfl (by kernel_rfl) (by kernel_rfl) (by kernel_rfl) (fun _ _ _ h => h) rfl ?_ hHeld ?_
      rotate_left
      · (intro wq hSq; have xk := hSq.trans k0; have s0 := cell_of_row _ _ 0 _ _ _ xk; have s1 := cell_of_row _ _ 1 _ _ _ xk; go_simp <;> first | with_reducible rfl | rfl)
      simp only [Act.put, List.setIfInBounds_toArray, List.set_cons_zero, List.set_cons_succ]
      refine inRound.take_on (hF := fun _ => trivial) (hpl := by kernel_rfl) (i := 4) (v := ?_) rfl rfl (by kernel_rfl) (by kernel_rfl) (by kernel_rfl) (fun _ _ _ h => h) rfl ?_ hHeld ?_
      rotate_left
      · (intro wq hSq; have xk := hSq.trans k0; have s0 := cell_of_row _ _ 0 _ _ _ xk; have s1 := cell_of_row _ _ 1 _ _ _ xk; go_simp <;> first | with_reducible rfl | rfl)
      simp only [Act.put, List.setIfInBounds_toArray, List.set_cons_zero, List.set_cons_succ]
      refine inRound.take_one (hF := fun _ => trivial) (i := 5) rfl (by kernel_rfl) (fun K hK => ?_)
      go_simp
      (refine ⟨trivial, (callsIn_wide.2 hcl).mono ?_⟩; rintro e z1 ⟨⟨v9, rfl, hv9⟩, hz1⟩; have hy1 : Below W3.heap.size W3 z1 := (Below.refl _ _).drew.trans hz1; obtain ⟨a9, c9, ev9, _⟩ := hv9.row; subst ev9; obtain ⟨fn, tmps, assign, body, hy, hRn⟩ := HYZ.out z1 hy1 a9 c9 hv9; clear hv9 hcl)
      try gi_wp2_with fail
      refine hK.out _ _ ?_ (fun hHeld => ?_)
      · exact hy1.block _ hl0
      clear hK K
      try simp only [Act.put, List.setIfInBounds_toArray, List.set_cons_zero, List.set_cons_succ]
      refine inRound.take_on (hF := fun _ => trivial) (hpl := by kernel_rfl) (i := 6) (v := ?_) rfl rfl (by kernel_rfl) (by kernel_rfl) (by kernel_rfl) (fun _ _ _ h => h) rfl ?_ hHeld ?_
      rotate_left
      · (intro wq hSq; have xk := hSq.trans k0; have s0 := cell_of_row _ _ 0 _ _ _ xk; have s1 := cell_of_row _ _ 1 _ _ _ xk; go_simp <;> first | with_reducible rfl | rfl)
      simp only [Act.put, List.setIfInBounds_toArray, List.set_cons_zero, List.set_cons_succ]
      refine inRound.take_one (hF := fun _ => trivial) (i := 7) rfl (by kernel_rfl) (fun K hK => ?_)
      go_simp
      (refine hRn.mono ?_; rintro e2 z2 ⟨bb, rfl, hx2, hk2, hres⟩; clear hRn hy)
      try gi_wp2_with fail
      refine hK.out _ _ ?_ (fun hHeld => ?_)
      · exact hx2
      clear hK K
      try simp only [Act.put, List.setIfInBounds_toArray, List.set_cons_zero, List.set_cons_succ]
      refine inRound.take_on (hF := fun _ => trivial) (hpl := by kernel_rfl) (i := 8) (v := ?_) rfl rfl (by kernel_rfl) (by kernel_rfl) (by kernel_rfl) (fun _ _ _ h => h) rfl ?_ hHeld ?_
      rotate_left
      · (intro wq hSq; have xk := hSq.trans k0; have s0 := cell_of_row _ _ 0 _ _ _ xk; have s1 := cell_of_row _ _ 1 _ _ _ xk; go_simp <;> first | with_reducible rfl | rfl)
      simp only [Act.put, List.setIfInBounds_toArray, List.set_cons_zero, List.set_cons_succ]
      refine inRound.held_done (by kernel_rfl) ?_ _
      rcases hres with ⟨rfl, pre, X, hJ, hXb, hpr, hps⟩ | ⟨rfl, pre, hjx⟩
      · have HJ2 : Hid (∃ pre X, J pre X ∧ Below X.heap.size X z2 ∧ saysS pre = tells.take (k + 1) ∧ ∀ y ∈ pre, ∀ j, S0 j → y.S j) := hide_it ⟨pre, X, hJ, hXb, hpr, hps⟩
        have HK2 := hide_it hk2
        clear hJ hXb hpr hps hk2 hx2
        gi_wp2
        go_roundw
        case rel => exact ⟨k + 1, by omega, by go_num, HJ2, HK2⟩
        case measure => simp [intOf]; omega
      · have HX := hide_it hjx
        clear hjx hk2 hx2
        gi_wp2
        refine bodyPost_ret (results_none rfl _ _ _) rfl ?_
        exact ⟨⟨_, rfl⟩, .inr ⟨_, _, trivial, HX.out, Below.refl _ _⟩⟩
    · have hkN : k = tells.length := by have := HNT.out; omega
      obtain ⟨pre, X, hJ, hXb, hpr, _⟩ := HJ.out
      rw [hkN, List.take_length] at hpr
      have HR : Hid (∃ xs X, saysS xs = tells ∧ J xs X ∧ Below X.heap.size X wr) := hide_it ⟨pre, X, hpr, hJ, hXb⟩
      have hn1 : ¬ (k : Int) < (N : Int) := by omega
      clear hJ hXb hpr HJ hkN
      gi_wp2
      go_end0
      obtain ⟨xs, X2, h1, h2, h3⟩ := HR.out
      exact ⟨⟨_, rfl⟩, .inl ⟨xs, h1, X2, h2, h3⟩⟩

theorem tellsS (m B B0 : Nat) {F : Nat → Prop} (p : Option Addr) (fr to : ByteArray) (n : Int) (tells : List (List UInt8 × List Nat)) (w : World) (hm : 1 ≤ m) (hs : Sc4 w B p fr to n) (hFl : ∀ j, F j → j < w.heap.size) (hB0 : B0 ≤ w.heap.size) (htl : tells.length ≤ 4000000000000) (htz : ∀ t ∈ tells, t.2.length ≤ 4096)
    (hf : ∀ W, Below w.heap.size w W → Calls Try.prog 54 #[.pointer p, .string fr, .string to, .int .i64 n] W fun e w' => (∃ v zs, e = .returned v ∧ OwP w' W.heap.size v zs ∧ (∀ y ∈ zs, ValF W F y) ∧ saysP zs = tells) ∧ Below W.heap.size W w') :
    TellsX Fence.wide m Try.prog 53 #[.pointer (some ⟨B, 0, none⟩), .pointer (some ⟨B + 1, 0, none⟩), .pointer (some ⟨B + 2, 0, none⟩), .pointer (some ⟨B + 3, 0, none⟩)] (fun x : Sc => #[.agg #[.string x.p.k, .slice x.p.a x.p.z.length x.p.c]]) (GS F B0) (fun x => KpC x.S) (fun xs => saysS xs = tells) (fun _ => True) w := fun l J Jx W hW hY h0 =>
  walkS_any m l B B0 p fr to n tells W hm (hs.below hW) (fun j hj => Nat.lt_of_lt_of_le (hFl j hj) hW.size) (Nat.le_trans hB0 hW.size) htl htz (hf W hW) J Jx hY h0

end Go.Proofs.Ythaknohnccmfoaa
