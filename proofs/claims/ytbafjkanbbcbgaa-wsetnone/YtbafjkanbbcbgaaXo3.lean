/- The law's walk over a set, whole. -/
import Derived.Test.YtbafjkanbbcbgaaXo2
namespace Go.Proofs.Ytbafjkanbbcbgaa
open Go.RowKit Go.Maps Go.Shelf

attribute [local go_sem] Oper.semAt_some

/-- What the law's walk answers. -/
def GotO (w w' : World) (us : List Pn) (L : List (Pw × Nat)) (most : Int) (e : Ending) : Prop :=
  ∃ a n c xs, ∃ k : Nat, e = .returned (.tuple #[.slice a n c, .int .i64 (k : Int)]) ∧ OwP w' w.heap.size (.slice a n c) xs ∧ (∀ x ∈ xs, x ∈ us ∨ OwnB w' w.heap.size (.slice x.a x.z.length x.c) x.z) ∧
    ((most = 0 ∧ xs = [] ∧ k = 0) ∨ ((∀ i : Nat, i ≤ xs.length → (i : Int) ≠ most) ∧ saysP xs = L.map (·.1) ∧ k = us.length) ∨ (xs ≠ [] ∧ (xs.length : Int) = most ∧ saysP xs = (L.take xs.length).map (·.1) ∧ ∃ y, L[xs.length - 1]? = some (y, k)))

set_option maxRecDepth 100000 in
set_option maxHeartbeats 8000000 in
theorem overL_any (p : Option Addr) (fr to : ByteArray) (pa : Option Addr) (pc : Nat) (most : Int) {F : Nat → Prop} {M : List Vn} {us : List Pn} (w : World) (hS : Ost w F p M) (hF : ∀ j, F j → j < w.heap.size) (hR : RowU w pa us)
    (hl : M.length + us.length ≤ 4000000000000) (hus : ∀ x ∈ us, x.k.size ≤ maxLen) :
    Calls Try.prog 14 #[.pointer p, .string fr, .string to, .slice pa us.length pc, .int .i64 most] w fun e w' => GotO w w' us (ovA (saysV M) fr.data.toList to.data.toList (saysP us)) most e ∧ Below w.heap.size w w' := by
  have hg : ∀ g o, (us.length ≠ 0 ∧ pa = some ⟨g, o, none⟩) → g < w.heap.size := fun g o e => by
    rcases hR with h0 | ⟨g', o', e', hlt, _⟩
    · exact absurd h0 e.1
    · have e := e.2
      rw [e'] at e; cases e; exact hlt
  have hmf : ∀ (fn : Fn) (first cap : Array Value) (w : World), (Instr.makeFunc fn first cap).run Try.prog w = .ok (.func fn first cap) w := fun _ _ _ _ => rfl
  have hfn : ∀ (fn : Fn) (a b : Array Value) (w : World), (binOp .eql 74 (.func fn a b) .nilFunc).run Try.prog w = .ok (.bool false) w := fun _ _ _ _ => rfl
  obtain ⟨L, hL⟩ : ∃ L, L = ovA (saysV M) fr.data.toList to.data.toList (saysP us) := ⟨_, rfl⟩
  rw [← hL]
  obtain ⟨U, hU⟩ : ∃ U, U = ((w.alloc (.cells #[.int .i64 most] 3)).alloc (.cells #[.slice none 0 0] 35)) := ⟨_, rfl⟩
  have hbU : Below w.heap.size w U := by rw [hU]; exact ((Below.refl _ _).alloc (Nat.le_refl _) _).alloc (by simp) _
  have hzU : U.heap.size = w.heap.size + 2 := by rw [hU]; simp
  have bM : Boxed U w.heap.size 3 (.int .i64 most) := by rw [hU]; exact (Boxed.new w _ _).alloc _
  have bO : Boxed U (w.heap.size + 1) 35 (.slice none 0 0) := by
    have := Boxed.new (w.alloc (.cells #[.int .i64 most] 3)) 35 (.slice none 0 0)
    rw [show (w.alloc (.cells #[.int .i64 most] 3)).heap.size = w.heap.size + 1 by simp] at this
    rw [hU]; exact this
  obtain ⟨V, hV⟩ : ∃ V, V = U.alloc (.cells #[.slice pa us.length pc, .int .i64 0] 72) := ⟨_, rfl⟩
  have hbV : Below U.heap.size U V := by rw [hV]; exact (Below.refl _ _).alloc (Nat.le_refl _) _
  have hzV : V.heap.size = U.heap.size + 1 := by rw [hV]; simp
  have bU : V.heap[U.heap.size]? = some (.cells #[.slice pa us.length pc, .int .i64 0] 72 (0, 0)) := by rw [hV]; exact heap_alloc_new U _
  have hov := over_fn p fr to (.func (.func 36) #[.pointer (some ⟨w.heap.size + 2, 0, none⟩)] #[]) (.inr ⟨_, _, _, rfl⟩) V
  have cM := bM.cell
  rw [hzU] at bU hzV
  refine (callsIn_wide (n := 5)).1 ?_
  refine callsIn_of_wp_marks Try.func14 rfl trivial ?_ rfl
  simp only [Try.ntmps14, List.size_toArray, List.length_cons, List.length_nil, Nat.reduceAdd, Nat.reduceSub, Array.replicate_succ, Array.replicate_zero, List.push_toArray, List.append_toArray, List.nil_append, List.cons_append]
  have HBU := hide_it hbU
  have HOO := hide_it bO
  have HMM := hide_it bM
  have HZU := hide_it hzU
  have HBV := hide_it hbV
  have HZV := hide_it hzV
  have HUU := hide_it bU
  have HOV := hide_it hov
  have HS := hide_it hS
  have HF := hide_it hF
  have HR := hide_it hR
  have HG := hide_it hg
  have HL := hide_it hL
  clear hbU bO bM hzU hbV hzV bU hov hS hF hR hg hL
  by_cases h0 : most = 0
  · subst h0
    gi_wp2
    rw [← hU]
    clear hU
    refine ⟨.tuple #[.slice none 0 0, .int .i64 0], by simp [results, Try.results14, go_sem], ⟨none, 0, 0, [], 0, rfl, OwnS.nil _ _ _ _, (fun x hx => by cases hx), .inl ⟨rfl, rfl, rfl⟩⟩, HBU.out⟩
  · have hne : (most == 0) = false := by simpa using h0
    gi_wp2_with fail
    rw [← hU, ← hV]
    clear hU hV
    first | refine ⟨trivial, (fun h => by cases h), (callsIn_wide.2 HOV.out).mono ?_⟩ | refine ⟨(fun h => by cases h), (callsIn_wide.2 HOV.out).mono ?_⟩ | refine ⟨trivial, (callsIn_wide.2 HOV.out).mono ?_⟩
    rintro e w1 ⟨rfl, h4, hb1, hz1⟩
    have hzU := HZU.out
    have hzV := HZV.out
    have hbV := HBV.out
    obtain ⟨B, hB⟩ : ∃ B, B = V.heap.size := ⟨_, rfl⟩
    rw [← hB] at h4
    have hbw1 : Below w.heap.size w w1 := HBU.out.trans ((hbV.mono (by omega)).trans (hb1.mono (by omega)))
    have hUnd : Und w1 (w.heap.size + 2) pa pc us 0 := ⟨(hb1.block _ (by omega)).trans HUU.out, HR.out.below hbw1⟩
    have hUI : UndIs w1 (fun j => j = w.heap.size + 2) (K0v F B fun j => ∃ o, us.length ≠ 0 ∧ pa = some ⟨j, o, none⟩) (.func (.func 36) #[.pointer (some ⟨w.heap.size + 2, 0, none⟩)] #[]) (fun k W => Und W (w.heap.size + 2) pa pc us k) us :=
      .some (w.heap.size + 2) pa pc us hUnd (by omega) rfl fun g o e => .inr (.inr ⟨o, e⟩)
    have hkr : ∀ j, K0v F B (fun j => ∃ o, us.length ≠ 0 ∧ pa = some ⟨j, o, none⟩) j → j < w.heap.size ∨ (B ≤ j ∧ j < B + 4) := fun j hj => by
      rcases hj with hj | hj | ⟨o, e⟩
      · exact .inl (HF.out j hj)
      · exact .inr hj
      · exact .inl (HG.out j o e)
    have htells := tellsO (5 - 1) B p fr to (by omega) h4 (HS.out.below hbw1) hUI (fun j hj => by have := HF.out j hj; omega) (fun j hj => by omega) (fun j ⟨o, e⟩ => by have := HG.out j o e; omega) (fun j hj => ⟨fun e => by have := HF.out j e; omega, by omega⟩) hus
    rw [← HL.out] at htells
    have hwz : w1.heap.size = w.heap.size + 7 := by omega
    have hBz : B = w.heap.size + 3 := by omega
    have hci0 : CI w (w1.heap.size + 1) most us (fun j => j = w.heap.size + 2) [] w1 :=
      ⟨⟨_, (hb1.block _ (by omega)).trans ((hbV.block _ (by omega)).trans HOO.out), OwnS.nil _ _ _ _, fun j hj => by cases hj⟩, (hb1.block _ (by omega)).trans ((hbV.block _ (by omega)).trans HMM.out), (fun x hx => by cases hx), hbw1, fun j hj => .inl hj, by omega⟩
    have HCI := hide_it hci0
    have HWZ := hide_it hwz
    have HBZ := hide_it hBz
    have HKR := hide_it hkr
    have hLl : L.length ≤ 4000000000000 := by
      rw [HL.out]
      refine Nat.le_trans (ovT_len _ _ _ _) ?_
      have h5 : (putsP (saysV M) fr.data.toList to.data.toList).length ≤ M.length := by
        unfold putsP putsW saysV
        rw [List.length_map]
        refine Nat.le_trans (List.length_filter_le _ _) (by simp)
      have h6 : (saysP us).length = us.length := by unfold saysP; simp
      omega
    have HLL := hide_it hLl
    rw [← hB]
    clear hB hci0 hwz hBz hkr hLl hzU hzV hbV h4 hb1 hz1 hbw1 hUnd hUI cM
    gi_wp2_with fail
    generalize hact : ({ tmps := _, defers := [] } : Act) = act0
    refine range_tellsT (α := Pn) (F := Fence.wide) rfl (by omega) (gf := 45) (lb := #[.pointer (some ⟨B, 0, none⟩), .pointer (some ⟨B + 1, 0, none⟩), .pointer (some ⟨B + 2, 0, none⟩), .pointer (some ⟨B + 3, 0, none⟩)]) (by rw [← hact]; rfl) trivial (enters_of Try.func45 (by kernel_rfl) rfl)
      htells (Below.refl _ _) (fun j hj => by have := HWZ.out; omega) (fun j hj => by have := HWZ.out; have := HBZ.out; have := HKR.out j hj; omega) ?hS ?hSp ?hG (fun _ => rfl)
      (fun T pre X => CI w (w1.heap.size + 1) most us T pre X ∧ ∀ k : Nat, k ≤ pre.length → (k : Int) ≠ most) (fun c T pre X => c = .exit 0 ∧ CI w (w1.heap.size + 1) most us T pre X ∧ (pre.length : Int) = most)
      ?hIa ?hIp ?hIxp ?h0 ?hIc ?hIxc
      (fun x => .cells #[.string x.k, .slice x.a x.z.length x.c] 60) (fun x b => { tmps := (act0.tmps.setIfInBounds 30 (prV x)).setIfInBounds 15 (.pointer (some ⟨b, 0, none⟩)), defers := [] }) ?hGa ?assign ?body ?done ?stop
    case hS => exact fun xs W l o o' h1 h2 h3 ⟨h4, h5⟩ => ⟨h4, Und.keep h5 (by simp) (World.putObj_heap_other (fun e => by have := HWZ.out; omega)) fun g o e => World.putObj_heap_other (fun e2 => by have := HWZ.out; have := HG.out g o e; omega)⟩
    case hSp => exact fun xs W l o o' h1 h2 h3 ⟨n, x, h4, h5, h6, h7⟩ => ⟨n, x, h4, h5, h6, Und.keep h7 (by simp) (World.putObj_heap_other (fun e => by have := HWZ.out; omega)) fun g o e => World.putObj_heap_other (fun e2 => by have := HWZ.out; have := HG.out g o e; omega)⟩
    case hG =>
      rintro T pre x X W l o o' h1 h2 h3 ⟨⟨⟨n, h4, h5⟩, h6, h7, h8⟩, h9⟩
      refine ⟨⟨⟨n, h4, Und.keep h5 (by simp) (World.putObj_heap_other (fun e => by have := HWZ.out; omega)) fun g o e => World.putObj_heap_other (fun e2 => by have := HWZ.out; have := HG.out g o e; omega)⟩, h6, h7.imp id fun h7 => ⟨h7.1.hold fun j hj => World.putObj_heap_other fun e => ?_, h7.2⟩, h8⟩, h9⟩
      obtain ⟨cur, h10⟩ := h7.1.typed hj
      rw [e, h2] at h10; cases h10; cases h3
    case hGa =>
      rintro T pre x X W o ⟨⟨⟨n, h4, h5⟩, h6, h7, h8⟩, h9⟩
      have hb : Below W.heap.size W (W.alloc o) := (Below.refl _ _).alloc (Nat.le_refl _) _
      exact ⟨⟨⟨n, h4, ⟨(hb.block _ (Array.getElem?_eq_some_iff.1 h5.blk).1).trans h5.blk, h5.row.below hb⟩⟩, h6, h7.imp id fun h7 => ⟨h7.1.below hb, h7.2⟩, h8⟩, h9⟩
    case hIa => exact fun T pre W o ⟨h1, h2⟩ => ⟨h1.chg (by have := HWZ.out; omega) ((Chg.refl (fun _ => False) _).alloc _) (fun _ e => e.elim) fun _ h => .inl h, h2⟩
    case hIp => exact fun T pre W o o' ⟨h1, h2⟩ _ _ _ => ⟨h1.chg (by have := HWZ.out; omega) (chg_put _ o') (fun _ e => .inr e) fun _ h => .inl h, h2⟩
    case hIxp => exact fun c T pre W o o' ⟨h0, h1, h2⟩ _ _ _ => ⟨h0, h1.chg (by have := HWZ.out; omega) (chg_put _ o') (fun _ e => .inr e) fun _ h => .inl h, h2⟩
    case h0 => exact ⟨HCI.out, fun k hk e => h0 (by simp at hk; subst hk; exact e.symm)⟩
    case hIc => exact fun T T' pre X W' h1 h2 ⟨h3, h4⟩ hc => ⟨h3.chg (by have := HWZ.out; omega) hc (fun _ e => .inl e) fun j hj => (h2 j hj).imp id (·.1), h4⟩
    case hIxc => exact fun c T pre X W' h1 ⟨h0, h3, h4⟩ hc => ⟨h0, h3.chg (by have := HWZ.out; omega) hc (fun _ e => .inl e) fun j hj => .inl hj, h4⟩
    case assign =>
      subst hact
      intro l x W K hK
      unfold prV at hK ⊢
      gi_wp2
      simp only [List.setIfInBounds_toArray, List.set_cons_zero, List.set_cons_succ] at hK
      exact hK
    case body =>
      subst hact
      rintro l b T pre x X W0 W rfl rfl hlb hbx ⟨r, hlr⟩ hTb hTl ⟨hci0, hfar⟩ hcw hbl ⟨hgo, hXz⟩
      have hwz := HWZ.out
      have hl8 : w.heap.size + 8 ≤ w1.heap.size + 1 := by omega
      have hci := hci0.chg (T' := T) hl8 hcw (fun _ e => .inr e) fun j hj => .inl hj
      have hxv : VP w.heap.size (w1.heap.size + 1) us T W x := by
        rcases hgo.val with h5 | ⟨h5, h6⟩
        · exact .inl h5
        · refine .inr ⟨h5.mono (by omega), fun j hj => ⟨h6 j hj, fun e => ?_⟩⟩
          obtain ⟨cur, h7⟩ := h5.typed hj
          rw [e, hlr] at h7; cases h7
      obtain ⟨n0, hLn, _⟩ := hgo.at_
      have hpl := (List.getElem?_eq_some_iff.1 hLn).1
      have hLl := HLL.out
      obtain ⟨v, hv1, hv2, hv3⟩ := hci.box
      obtain ⟨a3, c3, rfl, _⟩ := OwnS.open hv2
      obtain ⟨a5, c5, w5, hrun, ho5, hb5, hk5, hat5⟩ := app_pn x hv2 (by omega) (by omega)
      obtain ⟨hci5, hkp, hloop, hbo, hnu⟩ := hci.app hl8 hxv hv1 hv2 hv3 (fun j hj => by have := hTb j hj; omega) (by omega) ho5 hb5 hk5 hat5 (Kr := K0v F B fun j => ∃ o, us.length ≠ 0 ∧ pa = some ⟨j, o, none⟩) (fun j hj => by have := HKR.out j hj; have := HBZ.out; omega)
      have cO := hv1.cell
      have cb0 := cell_of_row _ _ 0 _ _ _ hbx
      have cb1 := cell_of_row _ _ 1 _ _ _ hbx
      have dO := hbo.cell
      have dN := hnu.cell
      have f5 := frozen_of_row _ _ 0 _ _ hbo
      have HCI5 := hide_it hci5
      have HKP := hide_it hkp
      have HLO := hide_it hloop
      have HFAR := hide_it hfar
      clear hci5 hkp hloop hfar hci hci0 hxv hgo hpl hLl hv2 hv3 ho5 hb5 hk5 hat5 hlr hcw hTb hTl hLn hlb hbx hv1 hbo hnu
      unfold prV
      by_cases hm : ((pre.length + 1 : Nat) : Int) = most
      · have hme : (((pre.length + 1 : Nat) : Int) == most) = true := by simpa using hm
        gi_wp2_with (gi_at_builtin; refine wpListIn_append_run rfl _ _ _ rfl _ _ _ _ rfl rfl hrun ?_)
        exact ⟨HLO.out, ⟨rfl, HCI5.out, by rw [List.length_append, List.length_singleton]; exact hm⟩, HKP.out⟩
      · have hme : (((pre.length + 1 : Nat) : Int) == most) = false := by simpa using hm
        gi_wp2_with (gi_at_builtin; refine wpListIn_append_run rfl _ _ _ rfl _ _ _ _ rfl rfl hrun ?_)
        refine ⟨HLO.out, HKP.out, HCI5.out, fun k hk e => ?_⟩
        rw [List.length_append, List.length_singleton] at hk
        rcases Nat.lt_or_ge pre.length k with h5 | h5
        · obtain rfl : k = pre.length + 1 := by omega
          exact hm e
        · exact HFAR.out k h5 e
    case done =>
      subst hact
      rintro D T xs W hD hDD ⟨hsa, hu⟩ hTb hTD ⟨hci, hfar⟩ hK
      obtain ⟨v, hv1, hv2, hv3⟩ := hci.box
      obtain ⟨a3, c3, rfl, _⟩ := OwnS.open hv2
      have cO := hv1.cell
      have cU := cell_of_row _ _ 1 _ _ _ hu.blk
      have hbl := (Array.getElem?_eq_some_iff.1 hu.blk).1
      have hwz := HWZ.out
      have HX : Hid (∀ Wd, Below W.heap.size W Wd → ∀ o', GotO w (Wd.putObj D o') us L most (.returned (.tuple #[.slice a3 xs.length c3, .int .i64 (us.length : Int)])) ∧ Below w.heap.size w (Wd.putObj D o')) := hide_it fun Wd hb o' => by
        obtain ⟨h1, h2, h3⟩ := hci.fin (by omega) hv2 (by omega) hK rfl hb o'
        exact ⟨⟨_, _, _, xs, us.length, rfl, h1, h2, .inr (.inl ⟨hfar, hsa, rfl⟩)⟩, h3⟩
      have HKK := hide_it hK
      clear hci hfar hsa hu hTb hTD hK hv2 hv3
      gi_wp2_with fail
      refine inRound.region_quiet (by kernel_rfl) (by kernel_rfl) ?_
      repeat (gi_big_quiet_step (fail))
      refine wpQuietIn_nil ?_
      rintro _ ⟨nq, rfl⟩
      have hbd : Below W.heap.size W (W.drewN nq) := below_drewN (Below.refl _ _) nq
      generalize W.drewN nq = Wd at hbd ⊢
      have hKd := (hbd.block D (Array.getElem?_eq_some_iff.1 HKK.out).1).trans HKK.out
      gi_wp2
      refine ⟨by simp, .inl ⟨_, _, rfl, run_takeDeferred (w := Wd) hKd, ?_⟩⟩
      exact ⟨.tuple #[.slice a3 xs.length c3, .int .i64 (us.length : Int)], by simp [results, Try.results14, go_sem], HX.out Wd hbd _⟩
    case stop =>
      subst hact
      rintro D c T pre W hD ⟨k, y, hne0, hsa, hat, hu⟩ hTb hTD ⟨rfl, hci, hm⟩ hK
      obtain ⟨v, hv1, hv2, hv3⟩ := hci.box
      obtain ⟨a3, c3, rfl, _⟩ := OwnS.open hv2
      have cO := hv1.cell
      have cU := cell_of_row _ _ 1 _ _ _ hu.blk
      have hbl := (Array.getElem?_eq_some_iff.1 hu.blk).1
      have hwz := HWZ.out
      have HX : Hid (∀ Wd, Below W.heap.size W Wd → ∀ o', GotO w (Wd.putObj D o') us L most (.returned (.tuple #[.slice a3 pre.length c3, .int .i64 (k : Int)])) ∧ Below w.heap.size w (Wd.putObj D o')) := hide_it fun Wd hb o' => by
        obtain ⟨h1, h2, h3⟩ := hci.fin (by omega) hv2 (by omega) hK rfl hb o'
        exact ⟨⟨_, _, _, pre, k, rfl, h1, h2, .inr (.inr ⟨hne0, hm, hsa, y, hat⟩)⟩, h3⟩
      have HKK := hide_it hK
      clear hci hsa hu hat hTb hTD hK hv2 hv3 hm
      gi_wp2_with fail
      refine inRound.region_quiet (by kernel_rfl) (by kernel_rfl) ?_
      repeat (gi_big_quiet_step (fail))
      refine wpQuietIn_nil ?_
      rintro _ ⟨nq, rfl⟩
      have hbd : Below W.heap.size W (W.drewN nq) := below_drewN (Below.refl _ _) nq
      generalize W.drewN nq = Wd at hbd ⊢
      have hKd := (hbd.block D (Array.getElem?_eq_some_iff.1 HKK.out).1).trans HKK.out
      gi_wp2
      refine ⟨by simp, .inl ⟨_, _, rfl, run_takeDeferred (w := Wd) hKd, ?_⟩⟩
      exact ⟨.tuple #[.slice a3 pre.length c3, .int .i64 (k : Int)], by simp [results, Try.results14, go_sem], HX.out Wd hbd _⟩

end Go.Proofs.Ytbafjkanbbcbgaa
