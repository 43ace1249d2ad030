/- The walk through a list of pairs, listened to. -/
import Derived.Test.YtbafjkanbbcbgaaXr1
import Derived.Test.YtbafjkanbbcbgaaXw9
import Derived.Test.YtbafjkanbbcbgaaRh1
import Derived.RangeFuncBound
namespace Go.Proofs.Ytbafjkanbbcbgaa
open Go.RowKit Go.Maps Go.Shelf

attribute [local go_sem] Oper.semAt_some

theorem roundIn_wide {a b : Nat} {P : Program} {l : Nat} {f : FuncId} {tmps : Array Value} {assign body : Code} {w : World} {R : Ending → World → Prop} (h : RoundIn Fence.wide a P l f tmps assign body w R) : RoundIn Fence.wide b P l f tmps assign body w R :=
  ⟨h.1, fun c cs _ => h.2 c cs (room_wide _)⟩
theorem yieldAt_wide {a : Nat} (b : Nat) {P : Program} {l : Nat} {args : Array Value} {W : World} {R : Ending → World → Prop} (h : YieldAt Fence.wide a P l args W R) : YieldAt Fence.wide b P l args W R := by
  obtain ⟨fn, tmps, assign, body, h1, h2⟩ := h
  exact ⟨fn, tmps, assign, body, h1, roundIn_wide h2⟩

/-- A pair as a value. -/
def prV (x : Pn) : Value := .agg #[.string x.k, .slice x.a x.z.length x.c]
/-- A list of pairs that can be read. -/
def RowU (w : World) (a : Option Addr) (us : List Pn) : Prop :=
  us.length = 0 ∨ ∃ g o, a = some ⟨g, o, none⟩ ∧ g < w.heap.size ∧ ∀ i, i < us.length → w.cell? ⟨g, o + i * 2, none⟩ = some (.string (pn us i).k) ∧ w.cell? ⟨g, o + i * 2 + 1, none⟩ = some (.slice (pn us i).a (pn us i).z.length (pn us i).c)
theorem RowU.keep {w w' : World} {a : Option Addr} {us : List Pn} (h : RowU w a us) (hz : w.heap.size ≤ w'.heap.size) (hk : ∀ g o, (us.length ≠ 0 ∧ a = some ⟨g, o, none⟩) → w'.heap[g]? = w.heap[g]?) : RowU w' a us := by
  rcases h with h | ⟨g, o, e, hg, hc⟩
  · exact .inl h
  · by_cases h0 : us.length = 0
    · exact .inl h0
    have hh := hk g o ⟨h0, e⟩
    refine .inr ⟨g, o, e, by omega, fun i hi => ?_⟩
    rw [World.cell?_of_block (w := w) (a := ⟨g, o + i * 2, none⟩) hh, World.cell?_of_block (w := w) (a := ⟨g, o + i * 2 + 1, none⟩) hh]
    exact hc i hi
theorem RowU.below {w w' : World} {a : Option Addr} {us : List Pn} (h : RowU w a us) (hb : Below w.heap.size w w') : RowU w' a us := by
  rcases h with h | ⟨g, o, e, hg, hc⟩
  · exact .inl h
  · exact RowU.keep (.inr ⟨g, o, e, hg, hc⟩) hb.size fun g' o' e' => by have e' := e'.2; rw [e] at e'; cases e'; exact hb.block g hg

/-- A walk's record: its pairs, how many it told. -/
structure Und (w : World) (ub : Nat) (a : Option Addr) (cap : Nat) (us : List Pn) (k : Nat) : Prop where
  blk : w.heap[ub]? = some (.cells #[.slice a us.length cap, .int .i64 (k : Int)] 72 (0, 0))
  row : RowU w a us
theorem Und.keep {w w' : World} {ub : Nat} {a : Option Addr} {cap : Nat} {us : List Pn} {k : Nat} (h : Und w ub a cap us k) (hz : w.heap.size ≤ w'.heap.size) (hu : w'.heap[ub]? = w.heap[ub]?) (hk : ∀ g o, (us.length ≠ 0 ∧ a = some ⟨g, o, none⟩) → w'.heap[g]? = w.heap[g]?) : Und w' ub a cap us k :=
  ⟨hu.trans h.blk, h.row.keep hz hk⟩

set_option maxRecDepth 100000 in
set_option maxHeartbeats 2000000 in
/-- The function that listens. -/
theorem hears_any (m l Lb Yb : Nat) (x : Pn) (W : World) (hL : Boxed W Lb 4 (.bool false)) (hY : Boxed W Yb 83 (.func (.yield l) #[] #[])) (R : Bool → World → Prop)
    (hRL : ∀ b W', R b W' → Boxed W' Lb 4 (.bool false))
    (hy : YieldAt Fence.wide (m - 1) Try.prog l #[prV x] (W.alloc (.cells #[.string x.k, .slice x.a x.z.length x.c] 60)) fun e W' => ∃ b, e = .returned (.bool b) ∧ R b W') :
    CallsIn Fence.wide m Try.prog 56 #[prV x, .pointer (some ⟨Lb, 0, none⟩), .pointer (some ⟨Yb, 0, none⟩)] W fun e W' => ∃ b W3, e = .returned (.bool b) ∧ R b W3 ∧ W' = W3.setCell ⟨Lb, 0, none⟩ (.bool (!b)) := by
  obtain ⟨U, hU⟩ : ∃ U, U = W.alloc (.cells #[.string x.k, .slice x.a x.z.length x.c] 60) := ⟨_, rfl⟩
  have hb : Below W.heap.size W U := by rw [hU]; exact (Below.refl _ _).alloc (Nat.le_refl _) _
  have kU : U.heap[W.heap.size]? = some (.cells #[.string x.k, .slice x.a x.z.length x.c] 60 (0, 0)) := by rw [hU]; exact heap_alloc_new W _
  have m0 := cell_of_row _ _ 0 _ _ _ kU
  have m1 := cell_of_row _ _ 1 _ _ _ kU
  have hL1 : U.cell? ⟨Lb, 0, none⟩ = some (.bool false) := ((hb.cell (p := ⟨Lb, 0, none⟩) hL.lt)).trans hL.cell
  have hY1 : U.cell? ⟨Yb, 0, none⟩ = some (.func (.yield l) #[] #[]) := ((hb.cell (p := ⟨Yb, 0, none⟩) hY.lt)).trans hY.cell
  rw [← hU] at hy
  obtain ⟨fn, tmps, assign, body, hyr, hRn⟩ := hy
  have HRL := hide_it hRL
  have hLl := hL.lt
  have hYl := hY.lt
  have hL0 := hL.cell
  have hY0 := hY.cell
  rw [hU] at hyr
  clear hL hY hb kU hRL
  unfold prV at *
  refine callsIn_of_wp Try.func56 rfl trivial ?_ rfl
  simp only [Try.ntmps56, List.size_toArray, List.length_cons, List.length_nil, Nat.reduceAdd, Nat.reduceSub, Array.replicate_succ, Array.replicate_zero, List.push_toArray, List.append_toArray, List.nil_append, List.cons_append]
  clear hL1 hY1 m0 m1
  gi_wp2_with fail
  rw [← hU]
  refine ⟨fun h => (by cases h), hRn.mono ?_⟩
  rintro e W3 ⟨b, rfl, hR⟩
  have hl3 := HRL.out b W3 hR
  have c3 := hl3.cell
  have f3 := frozen_of_row W3 _ 0 _ _ hl3
  have HR := hide_it hR
  clear hRn hyr hl3 hR hU hL0 hY0
  cases b
  · gi_wp2
    go_ret
    exact ⟨false, W3, rfl, HR.out, rfl⟩
  · gi_wp2
    go_ret
    exact ⟨true, W3, rfl, HR.out, rfl⟩

/-- Where a walk that is listened to stands: k pairs were told. -/
structure LSt (J : (Nat → Prop) → List Pn → World → Prop) (K0 : Nat → Prop) (l Lb Yb ub : Nat) (a : Option Addr) (cap : Nat) (us : List Pn) (k : Nat) (X0 : World) (T : Nat → Prop) (X wr : World) : Prop where
  x0 : X0.heap.size ≤ X.heap.size
  j : J T (us.take k) X
  c : Chg T X wr
  b : ∀ j, T j → j < X.heap.size
  k0 : ∀ j, K0 j → T j
  tl : tillT T X wr Lb
  ty : tillT T X wr Yb
  lb : Boxed wr Lb 4 (.bool false)
  yb : Boxed wr Yb 83 (.func (.yield l) #[] #[])
  un : Und wr ub a cap us k

set_option maxRecDepth 100000 in
set_option maxHeartbeats 4000000 in
theorem walkU_any (m l Lb Yb ub : Nat) (a : Option Addr) (cap : Nat) (us : List Pn) (K0 Kr : Nat → Prop) (J Jx : (Nat → Prop) → List Pn → World → Prop) (X0 W1 : World) (hus : us.length ≤ 4000000000000)
    (hY : ∀ T T' pre x X W1, J T pre X → Chg T X W1 → (∀ j, T j → j < X.heap.size) → (∀ j, T j → T' j) → (∀ j, T' j → tillT T X W1 j) → (pre.length < us.length ∧ x = pn us pre.length ∧ Und W1 ub a cap us (pre.length + 1) ∧ ∀ j, K0 j → T' j) → YieldAt Fence.wide (m - 1 - 1 - 1) Try.prog l #[prV x] W1 fun e W' =>
      KpS (fun j => T' j ∨ Kr j) W1 W' ∧ ((e = .returned (.bool true) ∧ J T' (pre ++ [x]) W') ∨ (e = .returned (.bool false) ∧ Jx T' (pre ++ [x]) W')))
    (hS : LSt J K0 l Lb Yb ub a cap us 0 X0 K0 X0 W1) (hu : K0 ub) (hg : ∀ g o, (us.length ≠ 0 ∧ a = some ⟨g, o, none⟩) → Kr g) (hLK : ¬ K0 Lb) (hLr : ¬ Kr Lb) (hrl : ∀ j, Kr j → j < X0.heap.size) :
    CallsIn Fence.wide (m - 1) Try.prog 36 #[.pointer (some ⟨ub, 0, none⟩), .func (.func 56) #[] #[.pointer (some ⟨Lb, 0, none⟩), .pointer (some ⟨Yb, 0, none⟩)]] W1 fun e W' => (∃ v, e = .returned v) ∧
      ((∃ T xs X, (∀ j, T j → j < X.heap.size) ∧ (xs = us ∧ Und W' ub a cap us us.length) ∧ J T xs X ∧ Chg T X W') ∨ (∃ T pre X, (∀ j, T j → j < X.heap.size) ∧ (pre.length ≤ us.length ∧ pre = us.take pre.length ∧ Und W' ub a cap us pre.length) ∧ Jx T pre X ∧ Chg T X W')) := by
  obtain ⟨N, hN⟩ : ∃ N, N = us.length := ⟨_, rfl⟩
  have HN := hide_it hN
  have HY := hide_it hY
  have HS := hide_it hS
  have HG := hide_it hg
  have hNl : N ≤ 4000000000000 := by omega
  clear hY hS hg hus hN
  refine callsIn_of_wp Try.func36 rfl trivial ?_ rfl
  simp only [Try.ntmps36, List.size_toArray, List.length_cons, List.length_nil, Nat.reduceAdd, Nat.reduceSub, Array.replicate_succ, Array.replicate_zero, List.push_toArray, List.append_toArray, List.nil_append, List.cons_append]
  gi_wp2_with fail
  gi_loopw [4] (fun i wr => ∃ k : Nat, k ≤ N ∧ i = .int .i64 (k : Int) ∧ Hid (∃ T X, LSt J K0 l Lb Yb ub a cap us k X0 T X wr)) (fun i _ => N - (intOf i).toNat)
  case atStart => exact ⟨0, by omega, rfl, hide_it ⟨_, _, HS.out⟩⟩
  case round =>
    obtain ⟨k, hk, rfl, HL⟩ := hrel
    obtain ⟨T, X, hst⟩ := HL.out
    have hub := hst.un.blk
    rw [← HN.out] at hub
    have u0 := cell_of_row _ _ 0 _ _ _ hub
    have u1 := cell_of_row _ _ 1 _ _ _ hub
    have fu := fun j => frozen_of_row wr _ j _ _ hub
    by_cases hlt : k < N
    · have hki : (k : Int) < (N : Int) := by omega
      have hw1 : IntKind.i64.wrap ((k : Int) + 1) = (k : Int) + 1 := i64_in (by omega) (by omega)
      have hkz : k < us.length := by rw [← HN.out]; exact hlt
      rcases hst.un.row with h0 | ⟨g, o, ea, hgl, hc⟩
      · omega
      obtain ⟨p0, p1⟩ := hc k hkz
      have hne : g ≠ ub := fun e => by
        rw [e, cell_of_row _ _ _ _ _ _ hub] at p0
        rcases ho : o + k * 2 with _ | _ | m
        · rw [ho] at p0; cases p0
        · rw [ho] at p0; cases p0
        · rw [ho] at p0; simp at p0
      have hubl := (Array.getElem?_eq_some_iff.1 hub).1
      obtain ⟨w2, hw2⟩ : ∃ w2, w2 = wr.setCell ⟨ub, 1, none⟩ (.int .i64 ((k : Int) + 1)) := ⟨_, rfl⟩
      have hub2 : w2.heap[ub]? = some (.cells #[.slice a N cap, .int .i64 ((k : Int) + 1)] 72 (0, 0)) := by rw [hw2, heap_setCell_same _ _ _ _ _ _ hub]; rfl
      have hoth : ∀ j, j ≠ ub → w2.heap[j]? = wr.heap[j]? := fun j hj => by rw [hw2]; exact Below.heap_setCell _ _ _ _ hj
      have hz2 : w2.heap.size = wr.heap.size := by rw [hw2]; simp
      have hc2 : Chg T X w2 := by rw [hw2]; exact hst.c.setCell _ _ fun _ => hst.k0 _ hu
      have hlub : Lb ≠ ub := fun e => hLK (e ▸ hu)
      have hlb2 : Boxed w2 Lb 4 (.bool false) := (hoth Lb hlub).trans hst.lb
      have hyub : Yb ≠ ub := fun e => by have h5 := hst.yb; rw [e] at h5; have := hub.symm.trans h5; cases this
      have hyb2 : Boxed w2 Yb 83 (.func (.yield l) #[] #[]) := (hoth Yb hyub).trans hst.yb
      have hrow2 : RowU w2 a us := hst.un.row.keep (by omega) fun g' o' e' => by have e' := e'.2; rw [ea] at e'; cases e'; exact hoth g hne
      have htk : us.take k ++ [pn us k] = us.take (k + 1) := by rw [List.take_succ_eq_append_getElem hkz, pn_get hkz]
      have hxx : pn us k = pn us (us.take k).length := by rw [List.length_take, Nat.min_eq_left (by omega)]
      have hlen : (us.take k).length = k := by rw [List.length_take, Nat.min_eq_left (by omega)]
      obtain ⟨U, hU⟩ : ∃ U, U = w2.alloc (.cells #[.string (pn us k).k, .slice (pn us k).a (pn us k).z.length (pn us k).c] 60) := ⟨_, rfl⟩
      have hbU : Below w2.heap.size w2 U := by rw [hU]; exact (Below.refl _ _).alloc (Nat.le_refl _) _
      have hcU : Chg T X U := by rw [hU]; exact hc2.alloc _
      have hunU : Und U ub a cap us (k + 1) := ⟨by rw [hbU.block ub (by omega), hub2, HN.out]; rfl, hrow2.below hbU⟩
      have hT1 : ∀ j, tillT T X U j → j < U.heap.size := tillT_lt hst.b hcU.size
      have hLbT : tillT T X U Lb := hst.tl.imp id fun e => ⟨e.1, by have := hbU.size; omega⟩
      have hYbT : tillT T X U Yb := hst.ty.imp id fun e => ⟨e.1, by have := hbU.size; omega⟩
      have hYU := HY.out T (tillT T X U) (us.take k) (pn us k) X U hst.j hcU hst.b (fun _ => .inl) (fun _ h => h) ⟨by rw [hlen]; exact hkz, hxx, by rw [hlen]; exact hunU, fun j hj => .inl (hst.k0 j hj)⟩
      rw [htk] at hYU
      have hlbU : U.heap[Lb]? = some (.cells #[.bool false] 4 (0, 0)) := (hbU.block Lb hlb2.lt).trans hlb2
      have hybU : U.heap[Yb]? = some (.cells #[.func (.yield l) #[] #[]] 83 (0, 0)) := (hbU.block Yb hyb2.lt).trans hyb2
      have hear := hears_any (m - 1 - 1) l Lb Yb (pn us k) w2 hlb2 hyb2 (fun b W' => KpS (fun j => tillT T X U j ∨ Kr j) U W' ∧ ((b = true ∧ J (tillT T X U) (us.take (k + 1)) W') ∨ (b = false ∧ Jx (tillT T X U) (us.take (k + 1)) W')))
        (fun b W' h => h.1.block Lb _ (.inl hLbT) hlbU) (by
          rw [← hU]
          refine hYU.mono ?_
          rintro e W' ⟨h1, h2 | h2⟩
          · exact ⟨true, h2.1, h1, .inl ⟨rfl, h2.2⟩⟩
          · exact ⟨false, h2.1, h1, .inr ⟨rfl, h2.2⟩⟩)
      have hkT : ∀ j, K0 j → tillT T X U j := fun j hj => .inl (hst.k0 j hj)
      -- what the next state is
      have hnx : ∀ W', KpS (fun j => tillT T X U j ∨ Kr j) U W' → ∀ v : Bool, Chg (tillT T X U) W' (W'.setCell ⟨Lb, 0, none⟩ (.bool v)) ∧ (∀ j, tillT T X U j → j < W'.heap.size) ∧ Und (W'.setCell ⟨Lb, 0, none⟩ (.bool v)) ub a cap us (k + 1) ∧ Boxed (W'.setCell ⟨Lb, 0, none⟩ (.bool v)) Lb 4 (.bool v) ∧ Boxed (W'.setCell ⟨Lb, 0, none⟩ (.bool v)) Yb 83 (.func (.yield l) #[] #[]) := fun W' hk v => by
        have hlb' : Boxed W' Lb 4 (.bool false) := hk.block Lb _ (.inl hLbT) hlbU
        have hyb' : Boxed W' Yb 83 (.func (.yield l) #[] #[]) := hk.block Yb _ (.inl hYbT) hybU
        refine ⟨(Chg.refl _ _).setCell _ _ fun _ => hLbT, fun j hj => Nat.lt_of_lt_of_le (hT1 j hj) hk.size, ?_, hlb'.set _, hyb'.other (fun e => ?_) _⟩
        · have h5 : Und W' ub a cap us (k + 1) := hunU.keep hk.size ((hk.block ub _ (.inl (hkT _ hu)) hunU.blk).trans hunU.blk.symm) fun g' o' e' => by
            have hg' := HG.out g' o' e'
            have : g' < U.heap.size := by have h8 := hrl g' hg'; have h9 := hst.x0; have h10 := hcU.size; omega
            rw [Array.getElem?_eq_getElem this]
            exact hk.block g' _ (.inr hg') (Array.getElem?_eq_getElem this)
          exact h5.keep (by simp) (Below.heap_setCell _ _ _ _ (fun e => hlub e.symm)) fun g' o' e' => Below.heap_setCell _ _ _ _ (fun e => hLr (by have e2 : g' = Lb := e; rw [← e2]; exact HG.out g' o' e'))
        · rw [e] at hyb'
          have h6 := (show W'.heap[Lb]? = _ from hlb').symm.trans (show W'.heap[Lb]? = _ from hyb')
          cases h6
      have HNX := hide_it hnx
      have HKT := hide_it hkT
      have HX0 := hide_it (Nat.le_trans hst.x0 hcU.size)
      have HTL := hide_it hLbT
      have HTY := hide_it hYbT
      have htl : (us.take (k + 1)).length = k + 1 := by rw [List.length_take, Nat.min_eq_left (by omega)]
      have HTK := hide_it htl
      have HKZ := hide_it hkz
      generalize pn us k = x at *
      unfold prV at hear
      subst ea
      clear hYU hlbU hybU hnx hkT hLbT hYbT htl hxx hlen htk hrow2 hyb2 hlb2 hc2 hcU hunU hT1 hbU hU hst HL hub hub2 hoth hz2 hkz HY HS HG hlub hyub hc hgl
      gi_wp2_with fail
      rw [← hw2]
      clear hw2 p0 p1 u0 u1 fu hne hubl
      refine ⟨trivial, (fun h => by cases h), hear.mono ?_⟩
      rintro e w4 ⟨b, W3, rfl, ⟨hk3, hJ⟩, rfl⟩
      clear hear
      cases b with
      | true =>
        have hj3 : J (tillT T X U) (us.take (k + 1)) W3 := by
          rcases hJ with h | h
          · exact h.2
          · exact absurd h.1 (by decide)
        obtain ⟨n1, n2, n3, n4, n5⟩ := HNX.out W3 hk3 false
        have HNS : Hid (∃ T X, LSt J K0 l Lb Yb ub (some ⟨g, o, none⟩) cap us (k + 1) X0 T X (W3.setCell ⟨Lb, 0, none⟩ (.bool false))) := hide_it ⟨_, W3, ⟨Nat.le_trans HX0.out hk3.size, hj3, n1, n2, HKT.out, .inl HTL.out, .inl HTY.out, n4, n5, n3⟩⟩
        clear hJ hj3 n1 n2 n3 n4 n5 hk3
        gi_wp2
        go_roundw
        case rel => exact ⟨k + 1, by omega, by go_num, HNS⟩
        case measure => simp [intOf]; omega
      | false =>
        have hj3 : Jx (tillT T X U) (us.take (k + 1)) W3 := by
          rcases hJ with h | h
          · exact absurd h.1 (by decide)
          · exact h.2
        obtain ⟨n1, n2, n3, n4, n5⟩ := HNX.out W3 hk3 true
        have hkz := HKZ.out
        have HEND : Hid (∃ T pre X, (∀ j, T j → j < X.heap.size) ∧ (pre.length ≤ us.length ∧ pre = us.take pre.length ∧ Und (W3.setCell ⟨Lb, 0, none⟩ (.bool true)) ub (some ⟨g, o, none⟩) cap us pre.length) ∧ Jx T pre X ∧ Chg T X (W3.setCell ⟨Lb, 0, none⟩ (.bool true))) :=
          hide_it ⟨_, us.take (k + 1), W3, n2, ⟨by rw [HTK.out]; omega, by rw [HTK.out], by rw [HTK.out]; exact n3⟩, hj3, n1⟩
        clear hJ hj3 n1 n2 n3 n4 n5 hk3
        gi_wp2
        refine bodyPost_ret (results_none rfl _ _ _) rfl ?_
        exact ⟨⟨_, rfl⟩, .inr HEND.out⟩
    · have hn1 : ¬ (k : Int) < (N : Int) := by omega
      have hkN : k = us.length := by have := HN.out; omega
      have hj := hst.j
      have hun := hst.un
      rw [hkN] at hj hun
      rw [List.take_length] at hj
      have HEND : Hid (∃ T xs X, (∀ j, T j → j < X.heap.size) ∧ (xs = us ∧ Und wr ub a cap us us.length) ∧ J T xs X ∧ Chg T X wr) := hide_it ⟨T, us, X, hst.b, ⟨rfl, hun⟩, hj, hst.c⟩
      clear hj hun hkN hst HL hub
      gi_wp2
      go_end0
      exact ⟨⟨_, rfl⟩, .inl HEND.out⟩

end Go.Proofs.Ytbafjkanbbcbgaa
