/- Versions, walked whole. -/
import Derived.Test.YthaknohnccmfoaaSo14
namespace Go.Proofs.Ythaknohnccmfoaa
open Go.RowKit Go.Maps Go.Shelf

attribute [local go_sem] Oper.semAt_some

theorem stopHere {p : Prop} (h : Hid p) : p := h

set_option maxRecDepth 100000 in
set_option maxHeartbeats 8000000 in
theorem versions_of {w : World} {F : Nat → Prop} {p : Option Addr} {mb : Option Nat} {M : List Ky} (h : VSrc w F p mb M) :
    Calls Try.prog 15 #[.pointer p] w fun e w' => (∃ v ys, e = .returned v ∧ OwV w' w.heap.size v ys ∧ ValV w' w.heap.size ys ∧ saysV ys = versA (abs M)) ∧ Below w.heap.size w w' := by
  have hMl : M.length ≤ 4000000000000 := by have := h.fine.keys; simpa [abs] using this
  have hK : ∃ ks, ks = M.map (·.k) := ⟨_, rfl⟩
  obtain ⟨ks, hks⟩ := hK
  have hkl : ks.length = M.length := by rw [hks, List.length_map]
  -- the boxes
  obtain ⟨U, hU⟩ : ∃ U, U = (w.alloc (.cells #[.pointer p] 25)).alloc (.cells #[.slice none 0 0] 23) := ⟨_, rfl⟩
  have hbU : Below w.heap.size w U := by rw [hU]; exact ((Below.refl _ _).alloc (Nat.le_refl _) _).alloc (by simp) _
  have hzU : U.heap.size = w.heap.size + 1 + 1 := by rw [hU]; simp
  have b1 : Boxed U w.heap.size 25 (.pointer p) := by rw [hU]; exact (Boxed.new w _ _).alloc _
  have b3 : Boxed U (w.heap.size + 1) 23 (.slice none 0 0) := by
    have := Boxed.new (w.alloc (.cells #[.pointer p] 25)) 23 (.slice none 0 0)
    rw [hU]; simpa using this
  have hL0 : LayV w U w.heap.size (w.heap.size + 1) p [] (.slice none 0 0) := ⟨b1, b3, OwnS.nil _ _ _ _, (fun y hy => by cases hy), hbU, by omega⟩
  have c1 := b1.cell
  have hall := h.all U hbU
  have hkeys := keys_any mb U
  obtain ⟨U1, hU1⟩ : ∃ U1, U1 = U.alloc (.cells #[.map mb] 73) := ⟨_, rfl⟩
  have hb1 : Below U.heap.size U U1 := by rw [hU1]; exact (Below.refl _ _).alloc (Nat.le_refl _) _
  have hzU1 : U1.heap.size = U.heap.size + 1 := by rw [hU1]; simp
  have hsort := sorted_any mb M U h.rise (h.map U hbU) hMl
  rw [← hU1] at hkeys hsort
  rw [← hks, hzU] at hsort
  have HH := hide_it h
  have HKS := hide_it hks
  have HKL := hide_it hkl
  have HML := hide_it hMl
  clear h hks hkl hMl b1 b3 hU1
  refine (callsIn_wide (n := 9)).1 ?_
  refine callsIn_of_wp_marks Try.func15 rfl trivial ?_ rfl
  simp only [Try.ntmps15, List.size_toArray, List.length_cons, List.length_nil, Nat.reduceAdd, Nat.reduceSub, Array.replicate_succ, Array.replicate_zero, List.push_toArray, List.append_toArray, List.nil_append, List.cons_append]
  gi_wp2_with fail
  rw [← hU]
  clear hU
  refine ⟨trivial, (callsIn_wide.2 hall).mono ?_⟩
  rintro e w1 ⟨rfl, hw1⟩
  obtain rfl := hw1.symm
  clear hall hw1
  gi_wp2_with fail
  refine ⟨trivial, (callsIn_wide.2 (callsIn_wide.1 hkeys)).mono ?_⟩
  rintro e w1 ⟨rfl, hw1⟩
  obtain rfl := hw1.symm
  clear hkeys hw1
  gi_wp2_with fail
  refine ⟨trivial, (callsIn_wide.2 (callsIn_wide.1 hsort)).mono ?_⟩
  rintro e w2 ⟨⟨vk, rfl, hrow⟩, hb2⟩
  clear hsort
  obtain ⟨ak, ck, rfl, hrk, hak⟩ := RowK.of_owns hrow
  have hback := backward_any ak ks.length ck w2
  obtain ⟨W1, hW1⟩ : ∃ W1, W1 = w2.alloc (.cells #[.slice ak ks.length ck] 57) := ⟨_, rfl⟩
  have hb3 : Below w2.heap.size w2 W1 := by rw [hW1]; exact (Below.refl _ _).alloc (Nat.le_refl _) _
  have hz2 := hb2.size
  have hzW1 : W1.heap.size = w2.heap.size + 1 := by rw [hW1]; simp
  have hbq : W1.heap[w2.heap.size]? = some (.cells #[.slice ak ks.length ck] 57 (0, 0)) := by rw [hW1]; exact heap_alloc_new w2 _
  rw [← hW1] at hback
  have hbU2 : Below U.heap.size U w2 := hb1.trans (hb2.mono (by omega))
  have hL1 : LayV w W1 w.heap.size (w.heap.size + 1) p [] (.slice none 0 0) := (hL0.below hbU2).below hb3
  have hKB1 : KB w2.heap.size ak ck ks W1 := ⟨hbq, hrk.keep fun g o _ hh => (hb3.block g (Array.getElem?_eq_some_iff.1 hh).1).trans hh⟩
  have hSB : ∀ j, SB w2.heap.size ak j → j < W1.heap.size := fun j hj => by
    rcases hj with rfl | e
    · omega
    · have := (hak j e).2
      omega
  have HL1 := hide_it hL1
  have HKB1 := hide_it hKB1
  have HSB := hide_it hSB
  have c1 := hL1.src.cell
  have hwW := hL1.bel.size
  clear hrow hb2 hrk hak hbq hL0 hbU hbU2 hb1 hb3 hL1 hKB1 hSB hW1
  gi_wp2_with fail
  refine ⟨trivial, (callsIn_wide.2 hback).mono ?_⟩
  rintro e w3 ⟨rfl, hw3⟩
  obtain rfl := hw3.symm
  clear hback hw3
  gi_wp2_with fail
  generalize hact : ({ tmps := _, defers := [] } : Act) = act0
  have hn0 : ks.length ≤ 4000000000000 := by have := HKL.out; have := HML.out; omega
  refine range_tellsH (F := Fence.wide) rfl (by omega) (gf := 60) (lb := #[.pointer (some ⟨w2.heap.size, 0, none⟩)]) (by rw [← hact]; rfl) trivial (enters_of Try.func60 (by kernel_rfl) rfl)
    (tellsB _ w2.heap.size ak ck ks W1 HKB1.out.1 HKB1.out.2 (by omega) hn0) (Below.refl _ _) kpS_t (kpS_b HSB.out) (fun _ _ _ _ _ _ _ _ _ _ h3 => h3) (fun _ => rfl)
    (fun pre W => (∃ ys v, LayV w W w.heap.size (w.heap.size + 1) p ys v ∧ saysV ys = (versA ((abs M).drop (M.length - pre.length))).reverse) ∧ KB w2.heap.size ak ck ks W) (fun _ _ _ => False) ?hI ?hIx ⟨⟨_, _, HL1.out, ?h0⟩, HKB1.out⟩
    (fun x => .cells #[encStr x.2] 9) (fun x b => { tmps := ((act0.tmps.setIfInBounds 12 (.int .i64 x.1)).setIfInBounds 13 (encStr x.2)).setIfInBounds 5 (.pointer (some ⟨b, 0, none⟩)), defers := [] }) (fun W o => kpS_a W o) (fun _ _ _ _ _ h => h) ?assign ?body ?done ?stop
  case hI => exact OwnFrom.and (LayV.from _ hwW) (ownFrom_KB _ _ _ _ _)
  case hIx => exact fun c _ _ _ _ h => h.elim
  case h0 =>
    rw [show M.length - ([] : List (Int × List UInt8)).length = (abs M).length by simp [abs], List.drop_length]
    rfl
  case assign =>
    subst hact
    intro l x W K hK
    unfold encStr at *
    gi_wp2
    simp only [List.setIfInBounds_toArray, List.set_cons_zero, List.set_cons_succ] at hK
    exact hK
  case body =>
    subst hact
    rintro l b pre x X W hlw hXb hbx ⟨r, hlr⟩ ⟨o, hlo, hoc⟩ ⟨⟨ys, v, hL, hys⟩, hKB⟩ hg hG
    obtain ⟨hpl, hkx⟩ := hG
    -- which key it is
    obtain ⟨J, hJ⟩ : ∃ J, J = M.length - 1 - pre.length := ⟨_, rfl⟩
    have hJM : J < M.length := by have := HKL.out; omega
    obtain ⟨e, he⟩ : ∃ e, e = M[J] := ⟨_, rfl⟩
    have heM : e ∈ M := by rw [he]; exact List.getElem_mem hJM
    have hek : x.2 = e.k := by
      rw [HKL.out, ← hJ, HKS.out, List.getElem?_map, List.getElem?_eq_getElem hJM, ← he] at hkx
      simpa using hkx.symm
    obtain ⟨xi, xk⟩ := x
    obtain rfl : xk = e.k := hek
    have hLW := hL.grown hg (fun j e => by cases e; exact ⟨by omega, o, hlo, hoc⟩)
    have hKBW : KB w2.heap.size ak ck ks W := ownFrom_KB W1.heap.size _ _ _ _ () X W _ hKB hg (fun j e => by cases e; exact ⟨hlw, o, hlo, hoc⟩)
    have hsw := hLW.bel.size
    have hWb : Below w.heap.size w W := hLW.bel
    -- the chain
    have hof := HH.out.of_ e heM W hWb
    have hkyW := HH.out.each e heM W hWb
    have hall2 := kY.all_any (some ⟨e.c, 0, none⟩) W
    obtain ⟨W2, hW2⟩ : ∃ W2, W2 = W.alloc (.cells #[.pointer (some ⟨e.c, 0, none⟩)] 88) := ⟨_, rfl⟩
    rw [← hW2] at hall2
    have hb2 : Below W.heap.size W W2 := by rw [hW2]; exact (Below.refl _ _).alloc (Nat.le_refl _) _
    have hz2 : W2.heap.size = W.heap.size + 1 := by rw [hW2]; simp
    have hbox2 : Boxed W2 W.heap.size 88 (.pointer (some ⟨e.c, 0, none⟩)) := by rw [hW2]; exact Boxed.new W _ _
    have hWb2 : Below w.heap.size w W2 := hWb.trans (hb2.mono hsw)
    have hky2 := HH.out.each e heM W2 hWb2
    have hlow2 := HH.out.low e heM
    have hls4 : e.ls.length ≤ 4000000000000 := Nat.le_trans (ls_le_tot heM) HH.out.fine.tot
    have hx4 : e.xs.length ≤ 4000000000000 := by rw [hky2.len]; exact hls4
    obtain ⟨xa, xc, ev, hxrow, _, _, _, hxob⟩ := hky2.hn.row
    have hkl : ∀ i, i < e.xs.length → LinkIs W2 F (kY.lk e.xs i) (vr e.ls i) := hky2.at_
    have hxl := hky2.len
    have hbv : ∀ i, i < e.ls.length → (vr e.ls i).b.length ≤ 140737488355328 := fun i hi => by
      have : (vr e.ls i).b.length ≤ 4096 := HH.out.fine.vl (e.k, e.ls) (List.mem_map.2 ⟨e, heM, rfl⟩) _ (vr_mem hi)
      omega
    have hn2 : kY.Hn W2 (Fc e.c e.v) e.c (.slice xa e.xs.length xc) e.xs := ev ▸ hky2.hn
    have hxg : ∀ g o, xa = some ⟨g, o, none⟩ → g < w.heap.size := fun g o e1 => hlow2 g (.inr ((hxob g).2 ⟨o, e1⟩))
    -- what was told before
    obtain ⟨R, hR⟩ : ∃ R, R = (versA ((abs M).drop (J + 1))).reverse := ⟨_, rfl⟩
    have hkl0 := HKL.out
    have hks0 : ks.length ≠ 0 := by omega
    have hysR : saysV ys = R := by rw [hys, hR, show M.length - pre.length = J + 1 by omega]
    have hdrop := versA_drop (M := M) hJM
    rw [← he] at hdrop
    have hRlen : R.length + e.ls.length ≤ 4000000000000 := by
      have h1 := versA_drop_le (abs M) J
      rw [hdrop, List.length_append, List.length_map] at h1
      rw [hR, List.length_reverse]
      have := HH.out.fine.tot
      omega
    have hend : R ++ ((e.ls.reverse.map fun l => (e.k, l))) = (versA ((abs M).drop (M.length - (pre ++ [(xi, e.k)]).length))).reverse := by
      rw [List.length_append, show M.length - (pre.length + [(xi, e.k)].length) = J by simp; omega, hdrop, List.reverse_append, hR, List.map_reverse]
    have hlr2 : W2.heap[l]? = some (.loop r) := (hb2.block l (Array.getElem?_eq_some_iff.1 hlr).1).trans hlr
    have hbxW : Boxed W b 9 (encStr e.k) := hbx
    have c1 := hLW.src.cell
    have c5 := hbxW.cell
    have hbW := hbxW.lt
    have HLW2 := hide_it (hLW.below hb2)
    have HKB2 : Hid (KB w2.heap.size ak ck ks W2) := hide_it (hKBW.of (chg_kpS (Chg.new (S := fun _ => False) hb2) fun _ _ h => h))
    have HBX2 : Hid (Boxed W2 b 9 (encStr e.k)) := hide_it ((hb2.block b hbW).trans hbxW)
    have HKF2 : Hid (KeepsFrom W1.heap.size W W2) := hide_it (chg_keeps _ (Chg.new (S := fun _ => False) hb2) fun _ h => h.elim)
    have HKS2 : Hid (KpS (SB w2.heap.size ak) W W2) := hide_it (chg_kpS (Chg.new (S := fun _ => False) hb2) fun _ _ h => h)
    have HEND := hide_it hend
    have HYS := hide_it hysR
    have HKY := hide_it hkl
    have HXG := hide_it hxg
    have HBV := hide_it hbv
    have HROW := hide_it hxrow
    unfold encStr at c5
    clear hL hys hKB hg hlo hoc hLW hKBW hkyW hky2 hkl hend hysR hR hdrop hbx hbxW hxg hbv hxrow hlow2 hkx hpl hJ hJM he ev hxob hW2
    unfold encStr
    gi_wp2_with fail
    refine ⟨trivial, (CallsIn.inRound l (callsIn_wide.2 hof)).mono ?_⟩
    rintro e1 w4 ⟨rfl, hw4⟩
    obtain rfl := hw4.symm
    clear hof hw4
    gi_wp2_with fail
    refine ⟨trivial, (CallsIn.inRound l (callsIn_wide.2 hall2)).mono ?_⟩
    rintro e1 w4 ⟨rfl, hw4⟩
    obtain rfl := hw4.symm
    clear hall2 hw4 c1 c5
    gi_wp2_with fail
    generalize hact2 : ({ tmps := _, defers := _ } : Act) = act2
    refine range_tellsN (F := Fence.wide.inRound l) (l₀ := l) (r₀ := r) rfl hlr2 (by omega) (gf := 63) (lb := #[.pointer (some ⟨W.heap.size, 0, none⟩)]) (by rw [← hact2]; rfl) trivial (enters_of Try.func63 (by kernel_rfl) rfl)
      (tellsY _ W.heap.size e.c (Fc e.c e.v) xa xc e.xs W2 hbox2 hn2 (by omega) hx4) (Below.refl _ _) kY.kpL_t (fun W l o o' _ h1 h2 => kY.kpL_b W l o o' h1 h2) (fun _ _ _ _ _ _ _ _ _ _ h3 => h3) (fun _ => rfl)
      (fun pre' W'' => (∃ ys v, LayV w W'' w.heap.size (w.heap.size + 1) p ys v ∧ saysV ys = R ++ ((e.ls.reverse.take pre'.length).map fun l => (e.k, l))) ∧ KB w2.heap.size ak ck ks W'' ∧ Boxed W'' b 9 (encStr e.k) ∧ KeepsFrom W1.heap.size W W'' ∧ KpS (SB w2.heap.size ak) W W'') (fun _ _ _ => False) ?hI2 ?hIx2 ⟨⟨ys, v, HLW2.out, by rw [HYS.out]; simp⟩, HKB2.out, HBX2.out, HKF2.out, HKS2.out⟩
      (fun x => .cells #[.int .i64 x.n, .slice x.v.1 x.v.2.1 x.v.2.2, .bool x.d] 95) (fun x b => { tmps := (act2.tmps.setIfInBounds 18 (kY.lkV x)).setIfInBounds 6 (.pointer (some ⟨b, 0, none⟩)), defers := [] }) (fun W o => ⟨by simp, fun r => r.below ((Below.refl _ _).alloc (Nat.le_refl _) _)⟩) (fun _ _ _ _ _ h => h) ?assign2 ?body2 ?done2 ?stop2
    case hI2 =>
      have hlW := (Array.getElem?_eq_some_iff.1 hlr).1
      exact OwnFrom.and (LayV.from _ (by omega)) (OwnFrom.and (ownFrom_KB _ _ _ _ _) (OwnFrom.and ((boxed_own b 9 (fun _ => encStr e.k)).from _) (OwnFrom.and (ownFrom_keepsFrom (by omega)) (ownFrom_kpS fun j hj => by have := HSB.out j hj; omega))))
    case hIx2 => exact fun c _ _ _ _ h => h.elim
    case assign2 =>
      subst hact2
      intro l x W K hK
      unfold kY.lkV at *
      gi_wp2
      simp only [List.setIfInBounds_toArray, List.set_cons_zero, List.set_cons_succ] at hK
      exact hK
    case body2 =>
      subst hact2
      rintro l2 bx pre2 x X2 W3 hlw2 hXb2 hbx2 ⟨r2, hlr2'⟩ ⟨o2, hlo2, hoc2⟩ ⟨⟨ys2, v2, hL2, hys2⟩, hKB2, hB2, hKF2, hKS2⟩ hg2 hG2
      obtain ⟨hp1, hp2, hpx⟩ := hG2
      have hrow : ∀ j, some l2 = some j → W2.heap.size ≤ j ∧ ∃ o : Obj, X2.heap[j]? = some o ∧ o.isCells = false := fun j e1 => by cases e1; exact ⟨hlw2, o2, hlo2, hoc2⟩
      have hsW2 := hWb2.size
      have hL3 := hL2.grown hg2 (fun j e1 => ⟨Nat.le_trans hsW2 (hrow j e1).1, (hrow j e1).2⟩)
      have hKB3 : KB w2.heap.size ak ck ks W3 := ownFrom_KB W2.heap.size _ _ _ _ () X2 W3 _ hKB2 hg2 hrow
      have hB3 : Boxed W3 b 9 (encStr e.k) := (boxed_own b 9 (fun _ : Unit => encStr e.k)).from W2.heap.size () X2 W3 _ hB2 hg2 hrow
      have hKF3 : KeepsFrom W1.heap.size W W3 := ownFrom_keepsFrom (β := Unit) (B' := W2.heap.size) (by omega) () X2 W3 _ hKF2 hg2 hrow
      have hKS3 : KpS (SB w2.heap.size ak) W W3 := ownFrom_kpS (β := Unit) (B := W2.heap.size) (fun j hj => by have := HSB.out j hj; have := (Array.getElem?_eq_some_iff.1 hlr).1; omega) () X2 W3 _ hKS2 hg2 hrow
      -- which link it is
      obtain ⟨q, hq⟩ : ∃ q, q = e.xs.length - 1 - pre2.length := ⟨_, rfl⟩
      have hqx : q < e.xs.length := by omega
      have hxq : x = kY.lk e.xs q := by rw [hpx, kY.lk_rev hp2, hq]
      obtain ⟨lv, hlv⟩ : ∃ lv, lv = vr e.ls q := ⟨_, rfl⟩
      have hlk : LinkIs W3 F x lv := by rw [hxq, hlv]; exact (HH.out.each e heM W3 hL3.bel).at_ q hqx
      have hlb : lv.b.length ≤ 140737488355328 := by rw [hlv]; exact HBV.out q (by omega)
      have htake : (e.ls.reverse.take (pre2 ++ [x]).length) = e.ls.reverse.take pre2.length ++ [lv] := by
        rw [List.length_append]
        show e.ls.reverse.take (pre2.length + 1) = _
        have h1 : pre2.length < e.ls.reverse.length := by rw [List.length_reverse]; omega
        rw [List.take_succ_eq_append_getElem h1, List.getElem_reverse, vr_get, hlv, hq, hxl]
      have hlen : ys2.length ≤ 4000000000000 := by
        have h1 := congrArg List.length hys2
        unfold saysV at h1
        rw [List.length_map, List.length_append, List.length_map, List.length_take, List.length_reverse] at h1
        omega
      have hcl := fun z (hz : Below W3.heap.size W3 z) => clone_link hlk hz hlb
      have hap := fun z (hz : Below W3.heap.size W3 z) a9 c9 (hv : OwnB z W3.heap.size (.slice a9 lv.b.length c9) lv.b) => app_lay hL3 hz ⟨⟨e.k.toArray⟩, x.n, a9, lv.b, c9, x.d⟩ hv hlen
      obtain ⟨va, vc, ev2, _⟩ := OwnS.open hL3.own
      subst ev2
      have c3 := hL3.box.cell
      have hb3l := hL3.box.lt
      have typ : ∀ {j cur t}, W3.heap[j]? = some (.cells cur t (0, 0)) → t ≠ 30 → ¬ (Value.slice va ys2.length vc).ownBlock = some j := fun {j cur t} hj ht e1 => by
        obtain ⟨cur', h2⟩ := OwnS.type hL3.own e1
        rw [hj] at h2; cases h2; exact ht rfl
      have hvb := typ hB3 (by decide)
      have hvx := typ hbx2 (by decide)
      have nb3 : ∀ {j cur t}, W3.heap[j]? = some (.cells cur t (0, 0)) → t ≠ 23 → j ≠ w.heap.size + 1 := fun {j cur t} hj ht e1 => by
        rw [e1, show W3.heap[w.heap.size + 1]? = _ from hL3.box] at hj; cases hj; exact ht rfl
      have hbn := nb3 hB3 (by decide)
      have hxn := nb3 hbx2 (by decide)
      have hbl3 := hB3.lt
      have hxl3 := (Array.getElem?_eq_some_iff.1 hbx2).1
      have hT : ∀ j, (j = w.heap.size + 1 ∨ (Value.slice va ys2.length vc).ownBlock = some j) → ∃ cur t, W3.heap[j]? = some (.cells cur t (0, 0)) := fun j hj => by
        rcases hj with rfl | hj
        · exact ⟨_, _, hL3.box⟩
        · obtain ⟨cur, h2⟩ := OwnS.type hL3.own hj; exact ⟨_, _, h2⟩
      have hSBn : ∀ j, SB w2.heap.size ak j → ¬ (j = w.heap.size + 1 ∨ (Value.slice va ys2.length vc).ownBlock = some j) := fun j hj hc => by
        have hcell : ∃ cur t, W3.heap[j]? = some (.cells cur t (0, 0)) ∧ t ≠ 30 ∧ t ≠ 23 := by
          rcases hj with rfl | hj
          · exact ⟨_, _, hKB3.1, by decide, by decide⟩
          · rcases hKB3.2 with h0 | ⟨g, cur, e1, hh, _⟩
            · exact absurd h0 hks0
            · rw [hj] at e1; cases e1; exact ⟨_, _, hh, by decide, by decide⟩
        obtain ⟨cur, t, h1, h2, h3⟩ := hcell
        rcases hc with hc | hc
        · exact nb3 h1 h3 hc
        · exact typ h1 h2 hc
      have hfin : ∀ z, Below W3.heap.size W3 z → ∀ a9 c9, OwnB z W3.heap.size (.slice a9 lv.b.length c9) lv.b → ∃ a5 n5 c5 w5,
          (Builtin.append_ #[23, 23] 23 #[.slice va ys2.length vc, .slice (some ⟨z.heap.size, 0, none⟩) 1 1]).run Try.prog (z.alloc (.cells #[.string ⟨e.k.toArray⟩, .int .i64 x.n, .slice a9 lv.b.length c9, .bool x.d] 30)) = .ok (.slice a5 n5 c5) w5 ∧
          w5.cell? ⟨w.heap.size + 1, 0, none⟩ = some (.slice va ys2.length vc) ∧ w5.frozen? ⟨w.heap.size + 1, 0, none⟩ = false ∧ w5.heap[b]? = W3.heap[b]? ∧ w5.heap[bx]? = W3.heap[bx]? ∧
          Hid (KeepsFrom W2.heap.size W3 (w5.setCell ⟨w.heap.size + 1, 0, none⟩ (.slice a5 n5 c5)) ∧ kY.KpL xa e.xs W3 (w5.setCell ⟨w.heap.size + 1, 0, none⟩ (.slice a5 n5 c5)) ∧
            (∃ ys v, LayV w (w5.setCell ⟨w.heap.size + 1, 0, none⟩ (.slice a5 n5 c5)) w.heap.size (w.heap.size + 1) p ys v ∧ saysV ys = R ++ ((e.ls.reverse.take (pre2 ++ [x]).length).map fun l => (e.k, l))) ∧ KB w2.heap.size ak ck ks (w5.setCell ⟨w.heap.size + 1, 0, none⟩ (.slice a5 n5 c5)) ∧ Boxed (w5.setCell ⟨w.heap.size + 1, 0, none⟩ (.slice a5 n5 c5)) b 9 (encStr e.k) ∧ KeepsFrom W1.heap.size W (w5.setCell ⟨w.heap.size + 1, 0, none⟩ (.slice a5 n5 c5)) ∧ KpS (SB w2.heap.size ak) W (w5.setCell ⟨w.heap.size + 1, 0, none⟩ (.slice a5 n5 c5))) := fun z hz a9 c9 hv => by
        obtain ⟨v5, w5, hrun, hL5, hc5, hb5, hk5, _⟩ := hap z hz a9 c9 hv
        obtain ⟨a5, c5, ev5, _⟩ := OwnS.open hL5.own
        subst ev5
        have hks := chg_kpS (S := SB w2.heap.size ak) hc5 hSBn
        have hsays : saysV (ys2 ++ [⟨⟨e.k.toArray⟩, x.n, a9, lv.b, c9, x.d⟩]) = R ++ ((e.ls.reverse.take (pre2 ++ [x]).length).map fun l => (e.k, l)) := by
          have hver : verOf ⟨⟨e.k.toArray⟩, x.n, a9, lv.b, c9, x.d⟩ = lv := by unfold verOf; simp only []; rw [hlk.n, hlk.d]
          rw [htake, List.map_append, ← List.append_assoc, ← hys2]
          unfold saysV
          rw [List.map_append, List.map_cons, hver]
          rfl
        refine ⟨a5, _, c5, w5, hrun, hb5.cell, hb5.frozen, hk5 b hbl3 hvb, hk5 bx hxl3 hvx, chg_keeps _ hc5 hT, ⟨hc5.size, fun r => r.keep fun g o e1 => hc5.block g ?_ ?_⟩, ⟨_, _, hL5, hsays⟩, hKB3.of hks, (hc5.block b hbl3 ?_).trans hB3, hKF3.trans (chg_keeps _ hc5 hT), kpS_t hKS3 hks⟩
        · have := HXG.out g o e1; have := hL3.bel.size; omega
        · rintro (h1 | h1)
          · have := HXG.out g o e1; omega
          · have := (OwnS.inside hL3.own g h1).1; have := HXG.out g o e1; omega
        · rintro (h1 | h1)
          · exact hbn h1
          · exact hvb h1
      have c5 : W3.cell? ⟨b, 0, none⟩ = some (encStr e.k) := hB3.cell
      unfold encStr at c5
      have kb3 := hB3
      unfold Boxed encStr at kb3
      have HFIN := hide_it hfin
      have hm : ∀ z, Below W3.heap.size W3 z → z.cell? ⟨w.heap.size + 1, 0, none⟩ = some (.slice va ys2.length vc) := fun z hz => (hz.cell (p := ⟨w.heap.size + 1, 0, none⟩) hb3l).trans c3
      have HM := hide_it hm
      clear hfin hm hap hL2 hys2 hKB2 hB2 hKF2 hKS2 hg2 hL3 hKB3 hB3 hKF3 hKS3 hlk hlb htake hlen typ hvb hvx nb3 hT hSBn hq hqx hxq hlv hp1 hp2 hpx hrow hlo2 hlr2' hXb2
      obtain ⟨N2, hN2⟩ : ∃ N2, N2 = ys2.length := ⟨_, rfl⟩
      rw [← hN2] at *
      unfold kY.lkV
      gi_wp2_with fail
      refine inRound.region_held (S := (fun w' => w'.heap[b]? = W3.heap[b]? ∧ w'.heap[bx]? = W3.heap[bx]?)) (by kernel_rfl) ?_ (fun hHeld => ?_)
      · exact ⟨rfl, rfl⟩
      refine inRound.take_on (hF := fun _ => trivial) (hpl := by kernel_rfl) (i := 1) (v := ?_) rfl rfl (by kernel_rfl) (by kernel_rfl) (by kernel_rfl) (fun _ _ _ h => h) rfl ?_ hHeld ?_
      rotate_left
      · (intro wq hSq; have xk := hSq.2.trans hbx2; have xb := hSq.1.trans kb3; have q5 := cell_of_row _ _ 0 _ _ _ xb; have s0 := cell_of_row _ _ 0 _ _ _ xk; have s1 := cell_of_row _ _ 1 _ _ _ xk; have s2 := cell_of_row _ _ 2 _ _ _ xk; go_simp <;> first | with_reducible rfl | rfl)
      simp only [Act.put, List.setIfInBounds_toArray, List.set_cons_zero, List.set_cons_succ]
      refine inRound.take_on (hF := fun _ => trivial) (hpl := by kernel_rfl) (i := 2) (v := ?_) rfl rfl (by kernel_rfl) (by kernel_rfl) (by kernel_rfl) (fun _ _ _ h => h) rfl ?_ hHeld ?_
      rotate_left
      · (intro wq hSq; have xk := hSq.2.trans hbx2; have xb := hSq.1.trans kb3; have q5 := cell_of_row _ _ 0 _ _ _ xb; have s0 := cell_of_row _ _ 0 _ _ _ xk; have s1 := cell_of_row _ _ 1 _ _ _ xk; have s2 := cell_of_row _ _ 2 _ _ _ xk; go_simp <;> first | with_reducible rfl | rfl)
      simp only [Act.put, List.setIfInBounds_toArray, List.set_cons_zero, List.set_cons_succ]
      refine inRound.take_on (hF := fun _ => trivial) (hpl := by kernel_rfl) (i := 3) (v := ?_) rfl rfl (by kernel_rfl) (by kernel_rfl) (by kernel_rfl) (fun _ _ _ h => h) rfl ?_ hHeld ?_
      rotate_left
      · (intro wq hSq; have xk := hSq.2.trans hbx2; have xb := hSq.1.trans kb3; have q5 := cell_of_row _ _ 0 _ _ _ xb; have s0 := cell_of_row _ _ 0 _ _ _ xk; have s1 := cell_of_row _ _ 1 _ _ _ xk; have s2 := cell_of_row _ _ 2 _ _ _ xk; go_simp <;> first | with_reducible rfl | rfl)
      simp only [Act.put, List.setIfInBounds_toArray, List.set_cons_zero, List.set_cons_succ]
      refine inRound.take_on (hF := fun _ => trivial) (hpl := by kernel_rfl) (i := 4) (v := ?_) rfl rfl (by kernel_rfl) (by kernel_rfl) (by kernel_rfl) (fun _ _ _ h => h) rfl ?_ hHeld ?_
      rotate_left
      · (intro wq hSq; have xk := hSq.2.trans hbx2; have xb := hSq.1.trans kb3; have q5 := cell_of_row _ _ 0 _ _ _ xb; have s0 := cell_of_row _ _ 0 _ _ _ xk; have s1 := cell_of_row _ _ 1 _ _ _ xk; have s2 := cell_of_row _ _ 2 _ _ _ xk; go_simp <;> first | with_reducible rfl | rfl)
      simp only [Act.put, List.setIfInBounds_toArray, List.set_cons_zero, List.set_cons_succ]
      refine inRound.take_on (hF := fun _ => trivial) (hpl := by kernel_rfl) (i := 5) (v := ?_) rfl rfl (by kernel_rfl) (by kernel_rfl) (by kernel_rfl) (fun _ _ _ h => h) rfl ?_ hHeld ?_
      rotate_left
      · (intro wq hSq; have xk := hSq.2.trans hbx2; have xb := hSq.1.trans kb3; have q5 := cell_of_row _ _ 0 _ _ _ xb; have s0 := cell_of_row _ _ 0 _ _ _ xk; have s1 := cell_of_row _ _ 1 _ _ _ xk; have s2 := cell_of_row _ _ 2 _ _ _ xk; go_simp <;> first | with_reducible rfl | rfl)
      simp only [Act.put, List.setIfInBounds_toArray, List.set_cons_zero, List.set_cons_succ]
      refine inRound.take_on (hF := fun _ => trivial) (hpl := by kernel_rfl) (i := 7) (v := ?_) rfl rfl (by kernel_rfl) (by kernel_rfl) (by kernel_rfl) (fun _ _ _ h => h) rfl ?_ hHeld ?_
      rotate_left
      · (intro wq hSq; have xk := hSq.2.trans hbx2; have xb := hSq.1.trans kb3; have q5 := cell_of_row _ _ 0 _ _ _ xb; have s0 := cell_of_row _ _ 0 _ _ _ xk; have s1 := cell_of_row _ _ 1 _ _ _ xk; have s2 := cell_of_row _ _ 2 _ _ _ xk; go_simp <;> first | with_reducible rfl | rfl)
      simp only [Act.put, List.setIfInBounds_toArray, List.set_cons_zero, List.set_cons_succ]
      refine inRound.take_on (hF := fun _ => trivial) (hpl := by kernel_rfl) (i := 8) (v := ?_) rfl rfl (by kernel_rfl) (by kernel_rfl) (by kernel_rfl) (fun _ _ _ h => h) rfl ?_ hHeld ?_
      rotate_left
      · (intro wq hSq; have xk := hSq.2.trans hbx2; have xb := hSq.1.trans kb3; have q5 := cell_of_row _ _ 0 _ _ _ xb; have s0 := cell_of_row _ _ 0 _ _ _ xk; have s1 := cell_of_row _ _ 1 _ _ _ xk; have s2 := cell_of_row _ _ 2 _ _ _ xk; go_simp <;> first | with_reducible rfl | rfl)
      simp only [Act.put, List.setIfInBounds_toArray, List.set_cons_zero, List.set_cons_succ]
      refine inRound.take_two (hF := fun _ => trivial) (i := 0) (j := 6) rfl rfl (by kernel_rfl) (fun K hK => ?_) (fun K hK => ?_)
      · go_simp
        skip
        try gi_wp2_with fail
        refine hK.out _ _ ?_ (fun hHeld => ?_)
        · exact hHeld
        clear hK K
        try simp only [Act.put, List.setIfInBounds_toArray, List.set_cons_zero, List.set_cons_succ]
        refine inRound.take_one (hF := fun _ => trivial) (i := 6) rfl (by kernel_rfl) (fun K hK => ?_)
        · go_simp
          (refine ⟨trivial, (CallsIn.inRound l2 (callsIn_wide.2 (hcl _ (Below.refl _ _).drew))).mono ?_⟩; rintro e1 z1 ⟨⟨v9, rfl, hv9⟩, hz1⟩; have hy1 : Below W3.heap.size W3 z1 := (Below.refl _ _).drew.trans hz1; obtain ⟨a9, c9, ev9, _⟩ := hv9.row; subst ev9; obtain ⟨a5, n5, k5, w5, hrun, d5, f5, kb5, kx5, HR⟩ := HFIN.out z1 hy1 a9 c9 hv9; have d1 := HM.out z1 hy1; have hl1 : w.heap.size + 1 < z1.heap.size := (by have := hy1.size; omega); have hl2 : b < z1.heap.size := (by have := hy1.size; omega); have hl3 : bx < z1.heap.size := (by have := hy1.size; omega); clear hv9 hcl)
          try gi_wp2_with fail
          refine hK.out _ _ ?_ (fun hHeld => ?_)
          · exact ⟨hy1.block _ hbl3, hy1.block _ hxl3⟩
          clear hK K
          try simp only [Act.put, List.setIfInBounds_toArray, List.set_cons_zero, List.set_cons_succ]
          refine inRound.take_on (hF := fun _ => trivial) (hpl := by kernel_rfl) (i := 9) (v := ?_) rfl rfl (by kernel_rfl) (by kernel_rfl) (by kernel_rfl) (fun _ _ _ h => h) rfl ?_ hHeld ?_
          rotate_left
          · (intro wq hSq; have xk := hSq.2.trans hbx2; have xb := hSq.1.trans kb3; have q5 := cell_of_row _ _ 0 _ _ _ xb; have s0 := cell_of_row _ _ 0 _ _ _ xk; have s1 := cell_of_row _ _ 1 _ _ _ xk; have s2 := cell_of_row _ _ 2 _ _ _ xk; go_simp <;> first | with_reducible rfl | rfl)
          simp only [Act.put, List.setIfInBounds_toArray, List.set_cons_zero, List.set_cons_succ]
          refine inRound.take_one (hF := fun _ => trivial) (i := 10) rfl (by kernel_rfl) (fun K hK => ?_)
          · go_simp
            skip
            try gi_wp2_with fail
            refine hK.out _ _ ?_ (fun hHeld => ?_)
            · exact ⟨(Below.heap_alloc _ _ _ hl2).trans hHeld.1, (Below.heap_alloc _ _ _ hl3).trans hHeld.2⟩
            clear hK K
            try simp only [Act.put, List.setIfInBounds_toArray, List.set_cons_zero, List.set_cons_succ]
            refine inRound.take_one (hF := fun _ => trivial) (i := 11) rfl (by kernel_rfl) (fun K hK => ?_)
            refine inRound.step_append_run (fun _ => trivial) rfl _ _ _ rfl _ _ _ _ rfl rfl hrun ?_
            refine hK.out _ _ ?_ (fun hHeld => ?_)
            · exact ⟨kb5, kx5⟩
            clear hK K
            try simp only [Act.put, List.setIfInBounds_toArray, List.set_cons_zero, List.set_cons_succ]
            refine inRound.take_one (hF := fun _ => trivial) (i := 12) rfl (by kernel_rfl) (fun K hK => ?_)
            go_simp
            skip
            try gi_wp2_with fail
            refine hK.out _ _ ?_ (fun hHeld => ?_)
            · exact ⟨(Below.heap_setCell _ _ _ _ hbn).trans kb5, (Below.heap_setCell _ _ _ _ hxn).trans kx5⟩
            clear hK K
            try simp only [Act.put, List.setIfInBounds_toArray, List.set_cons_zero, List.set_cons_succ]
            refine inRound.held_done (by kernel_rfl) ?_ _
            gi_wp2
            exact HR.out
      · go_simp
        (refine ⟨trivial, (CallsIn.inRound l2 (callsIn_wide.2 (hcl _ (Below.refl _ _).drew))).mono ?_⟩; rintro e1 z1 ⟨⟨v9, rfl, hv9⟩, hz1⟩; have hy1 : Below W3.heap.size W3 z1 := (Below.refl _ _).drew.trans hz1; obtain ⟨a9, c9, ev9, _⟩ := hv9.row; subst ev9; obtain ⟨a5, n5, k5, w5, hrun, d5, f5, kb5, kx5, HR⟩ := HFIN.out z1 hy1 a9 c9 hv9; have d1 := HM.out z1 hy1; have hl1 : w.heap.size + 1 < z1.heap.size := (by have := hy1.size; omega); have hl2 : b < z1.heap.size := (by have := hy1.size; omega); have hl3 : bx < z1.heap.size := (by have := hy1.size; omega); clear hv9 hcl)
        try gi_wp2_with fail
        refine hK.out _ _ ?_ (fun hHeld => ?_)
        · exact ⟨hy1.block _ hbl3, hy1.block _ hxl3⟩
        clear hK K
        try simp only [Act.put, List.setIfInBounds_toArray, List.set_cons_zero, List.set_cons_succ]
        refine inRound.take_on (hF := fun _ => trivial) (hpl := by kernel_rfl) (i := 9) (v := ?_) rfl rfl (by kernel_rfl) (by kernel_rfl) (by kernel_rfl) (fun _ _ _ h => h) rfl ?_ hHeld ?_
        rotate_left
        · (intro wq hSq; have xk := hSq.2.trans hbx2; have xb := hSq.1.trans kb3; have q5 := cell_of_row _ _ 0 _ _ _ xb; have s0 := cell_of_row _ _ 0 _ _ _ xk; have s1 := cell_of_row _ _ 1 _ _ _ xk; have s2 := cell_of_row _ _ 2 _ _ _ xk; go_simp <;> first | with_reducible rfl | rfl)
        simp only [Act.put, List.setIfInBounds_toArray, List.set_cons_zero, List.set_cons_succ]
        refine inRound.take_two (hF := fun _ => trivial) (i := 0) (j := 10) rfl rfl (by kernel_rfl) (fun K hK => ?_) (fun K hK => ?_)
        · go_simp
          skip
          try gi_wp2_with fail
          refine hK.out _ _ ?_ (fun hHeld => ?_)
          · exact hHeld
          clear hK K
          try simp only [Act.put, List.setIfInBounds_toArray, List.set_cons_zero, List.set_cons_succ]
          refine inRound.take_one (hF := fun _ => trivial) (i := 10) rfl (by kernel_rfl) (fun K hK => ?_)
          · go_simp
            skip
            try gi_wp2_with fail
            refine hK.out _ _ ?_ (fun hHeld => ?_)
            · exact ⟨(Below.heap_alloc _ _ _ hl2).trans hHeld.1, (Below.heap_alloc _ _ _ hl3).trans hHeld.2⟩
            clear hK K
            try simp only [Act.put, List.setIfInBounds_toArray, List.set_cons_zero, List.set_cons_succ]
            refine inRound.take_one (hF := fun _ => trivial) (i := 11) rfl (by kernel_rfl) (fun K hK => ?_)
            refine inRound.step_append_run (fun _ => trivial) rfl _ _ _ rfl _ _ _ _ rfl rfl hrun ?_
            refine hK.out _ _ ?_ (fun hHeld => ?_)
            · exact ⟨kb5, kx5⟩
            clear hK K
            try simp only [Act.put, List.setIfInBounds_toArray, List.set_cons_zero, List.set_cons_succ]
            refine inRound.take_one (hF := fun _ => trivial) (i := 12) rfl (by kernel_rfl) (fun K hK => ?_)
            go_simp
            skip
            try gi_wp2_with fail
            refine hK.out _ _ ?_ (fun hHeld => ?_)
            · exact ⟨(Below.heap_setCell _ _ _ _ hbn).trans kb5, (Below.heap_setCell _ _ _ _ hxn).trans kx5⟩
            clear hK K
            try simp only [Act.put, List.setIfInBounds_toArray, List.set_cons_zero, List.set_cons_succ]
            refine inRound.held_done (by kernel_rfl) ?_ _
            gi_wp2
            exact HR.out
        · go_simp
          skip
          try gi_wp2_with fail
          refine hK.out _ _ ?_ (fun hHeld => ?_)
          · exact ⟨(Below.heap_alloc _ _ _ hl2).trans hHeld.1, (Below.heap_alloc _ _ _ hl3).trans hHeld.2⟩
          clear hK K
          try simp only [Act.put, List.setIfInBounds_toArray, List.set_cons_zero, List.set_cons_succ]
          refine inRound.take_one (hF := fun _ => trivial) (i := 0) rfl (by kernel_rfl) (fun K hK => ?_)
          · go_simp
            skip
            try gi_wp2_with fail
            refine hK.out _ _ ?_ (fun hHeld => ?_)
            · exact hHeld
            clear hK K
            try simp only [Act.put, List.setIfInBounds_toArray, List.set_cons_zero, List.set_cons_succ]
            refine inRound.take_one (hF := fun _ => trivial) (i := 11) rfl (by kernel_rfl) (fun K hK => ?_)
            refine inRound.step_append_run (fun _ => trivial) rfl _ _ _ rfl _ _ _ _ rfl rfl hrun ?_
            refine hK.out _ _ ?_ (fun hHeld => ?_)
            · exact ⟨kb5, kx5⟩
            clear hK K
            try simp only [Act.put, List.setIfInBounds_toArray, List.set_cons_zero, List.set_cons_succ]
            refine inRound.take_one (hF := fun _ => trivial) (i := 12) rfl (by kernel_rfl) (fun K hK => ?_)
            go_simp
            skip
            try gi_wp2_with fail
            refine hK.out _ _ ?_ (fun hHeld => ?_)
            · exact ⟨(Below.heap_setCell _ _ _ _ hbn).trans kb5, (Below.heap_setCell _ _ _ _ hxn).trans kx5⟩
            clear hK K
            try simp only [Act.put, List.setIfInBounds_toArray, List.set_cons_zero, List.set_cons_succ]
            refine inRound.held_done (by kernel_rfl) ?_ _
            gi_wp2
            exact HR.out
    case done2 =>
      rintro xs2 W3 hS2 ⟨⟨ys2, v2, hL2, hys2⟩, hKB2, _, hKF2, hKS2⟩
      refine ⟨hKF2, hKS2, ⟨ys2, v2, hL2, ?_⟩, hKB2⟩
      rw [hys2, hS2, List.length_reverse, hxl, List.take_of_length_le (by rw [List.length_reverse]; exact Nat.le_refl _)]
      exact HEND.out
    case stop2 =>
      rintro c pre2 W3 _ h
      exact h.elim
  case done =>
    subst hact
    rintro D xs W hD hS ⟨⟨ys, v, hL, hys⟩, hKB⟩ hK
    have hsay : saysV ys = (versA (abs M)).reverse := by rw [hys, hS, HKL.out, Nat.sub_self]; rfl
    have hlen : ys.length ≤ 4000000000000 := by
      have h1 := congrArg List.length hsay
      rw [List.length_reverse, versA_len] at h1
      unfold saysV at h1
      rw [List.length_map] at h1
      rw [h1]; exact HH.out.fine.tot
    have c3 := hL.box.cell
    obtain ⟨va, vc, ev, _⟩ := OwnS.open hL.own
    subst ev
    have hrv := reverse_any hL.own hlen
    have HL := hide_it hL
    have HS := hide_it hsay
    have HKK := hide_it hK
    clear hL hys hKB hK hS hsay hlen
    gi_wp2_with fail
    refine ⟨trivial, (callsIn_wide.2 hrv).mono ?_⟩
    rintro e w4 ⟨rfl, ho4, hc4⟩
    have hnb : ∀ {j cur t}, W.heap[j]? = some (.cells cur t (0, 0)) → t ≠ 30 → ¬ (Value.slice va ys.length vc).ownBlock = some j := fun {j cur t} hj ht e => by
      obtain ⟨cur', h2⟩ := OwnS.type HL.out.own e
      rw [hj] at h2; cases h2; exact ht rfl
    have c4 : w4.cell? ⟨w.heap.size + 1, 0, none⟩ = some (.slice va ys.length vc) := (hc4.cell (a := ⟨w.heap.size + 1, 0, none⟩) HL.out.box.lt (hnb HL.out.box (by decide))).trans c3
    have hD4 : w4.heap[D]? = some (.deferred (some [])) := (hc4.block D (Array.getElem?_eq_some_iff.1 HKK.out).1 fun e => by
      obtain ⟨cur', h2⟩ := OwnS.type HL.out.own e
      rw [HKK.out] at h2; cases h2).trans HKK.out
    have hb4 : Below w.heap.size w w4 := HL.out.bel.trans (hc4.below (fun j e => (OwnS.inside HL.out.own j e).1) HL.out.bel.size)
    have hv4 : ValV w4 w.heap.size ys := ValV.hold HL.out.val fun j cur hj => hc4.block j (Array.getElem?_eq_some_iff.1 hj).1 (hnb hj (by decide))
    have HO4 := hide_it ho4
    have HB4 := hide_it hb4
    have HV4 := hide_it hv4
    have HD4 := hide_it hD4
    clear hrv ho4 hc4 hnb hD4 hb4 hv4 c3
    gi_wp2
    refine ⟨by simp, .inl ⟨_, _, rfl, run_takeDeferred (w := w4) HD4.out, ?_⟩⟩
    have hDc : ∀ (j : Nat) (cur : Array Value) (t : TypeId), w4.heap[j]? = some (.cells cur t (0, 0)) → (w4.putObj D (.deferred none)).heap[j]? = w4.heap[j]? := fun j cur t hj => World.putObj_heap_other (fun e => by rw [e, HD4.out] at hj; cases hj)
    refine ⟨.slice va ys.length vc, by simp [results, Try.results15, go_sem], ⟨_, ys.reverse, rfl, ?_, fun y hy => ?_, ?_⟩, HB4.out.trans (belowK_b (w := w) (Nat.le_refl _) _ D _ _ (by omega) HD4.out rfl rfl)⟩
    · refine OwnS.keep HO4.out fun j hj => ?_
      obtain ⟨cur, h2⟩ := OwnS.type HO4.out hj
      exact hDc j _ _ h2
    · exact (ValV.hold HV4.out fun j cur hj => hDc j _ _ hj) y (List.mem_reverse.1 hy)
    · unfold saysV
      rw [List.map_reverse]
      have := HS.out
      unfold saysV at this
      rw [this, List.reverse_reverse]
  case stop =>
    rintro D c pre W _ _ h
    exact h.elim

end Go.Proofs.Ythaknohnccmfoaa
