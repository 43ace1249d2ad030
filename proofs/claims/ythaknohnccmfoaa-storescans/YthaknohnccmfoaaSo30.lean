/- What a scan gives, collected. -/
import Derived.Test.YthaknohnccmfoaaSo29
namespace Go.Proofs.Ythaknohnccmfoaa
open Go.RowKit Go.Maps Go.Shelf

attribute [local go_sem] Oper.semAt_some

/-- An append whose run is known, in a walk within a fence. -/
theorem wpListIn_append_run {F : Fence} {nF : Nat} {P : Program} {w : World} {ops : Array Oper} {rest : List Oper} {o : Oper} {a : Act} {Q : Exit → Act → World → Prop} (hgd : o.guard = none) (s x : Operand) (t : TypeId)
    (ho : o.op = .call { callee := .builtin .append, args := #[s, x], argTypes := #[t, t] }) (v y v' : Value) (w' : World) (hs : a.eval s = v) (hx : a.eval x = y)
    (hrun : (Builtin.append_ #[t, t] o.type #[v, y]).run P w = .ok v' w') (h : wpListIn F nF P ops Q rest (a.put o.dst v') w') : wpListIn F nF P ops Q (o :: rest) a w := by
  refine wpListIn_plain hgd fun K hK => ?_
  unfold Oper.wpIn
  refine ⟨by simp [Oper.about, ho, resolve, Target.leads, Sem.run_pure], ?_⟩
  rw [Oper.semAt_plain F _ _ (by rw [ho]; intro c hc'; cases hc')]
  simp [execOp, ho, resolve, invoke, builtin, hs, hx, hrun, Result.andThen]
  exact hK _ _ h

theorem ValP.hold {w w' : World} {B : Nat} {ys : List Pn} (h : ValP w B ys) (hk : ∀ (j : Nat) (cur : Array Value), w.heap[j]? = some (Obj.cells cur 5 (0, 0)) → w'.heap[j]? = w.heap[j]?) : ValP w' B ys := fun y hy => (h y hy).hold fun j hj => by
  obtain ⟨cur, h2⟩ := (h y hy).typed hj
  exact hk j cur h2
/-- Where a scan's collecting stands: the box of the list, the list. -/
structure LayP (w W : World) (B3 : Nat) (ys : List Pn) (v : Value) : Prop where
  box : Boxed W B3 33 v
  own : OwP W w.heap.size v ys
  val : ValP W w.heap.size ys
  bel : Below w.heap.size w W
  low : w.heap.size ≤ B3
theorem LayP.grown {w W W' : World} {B3 : Nat} {ys : List Pn} {v : Value} {r : Option Nat} (h : LayP w W B3 ys v) (hg : W.grownBy W' r) (hr : ∀ j, r = some j → w.heap.size ≤ j ∧ ∃ o : Obj, W.heap[j]? = some o ∧ o.isCells = false) : LayP w W' B3 ys v := by
  have ne : ∀ {j cur t}, W.heap[j]? = some (.cells cur t (0, 0)) → some j ≠ r := fun {j cur t} hj e => by
    obtain ⟨_, o, h1, h2⟩ := hr j e.symm
    rw [hj] at h1; cases h1; cases h2
  refine ⟨h.box.kept hg (ne h.box), OwnS.keep h.own fun j hj => ?_, ValP.hold h.val fun j cur hj => hg.block j (Array.getElem?_eq_some_iff.1 hj).1 (ne hj), h.bel.grown hg h.bel.size (fun j e => (hr j e).1), h.low⟩
  obtain ⟨cur, hc⟩ := OwnS.type h.own hj
  exact hg.block j (OwnS.inside h.own j hj).2 (ne hc)
theorem LayP.below {w W W' : World} {B3 : Nat} {ys : List Pn} {v : Value} (h : LayP w W B3 ys v) (hb : Below W.heap.size W W') : LayP w W' B3 ys v :=
  h.grown (grown_none hb) fun j e => by cases e
/-- One pair laid behind the others. -/
theorem app_layP {w W : World} {B3 : Nat} {ys : List Pn} {v : Value} (h : LayP w W B3 ys v) (y : Pn) (hv : OwnB W w.heap.size (.slice y.a y.z.length y.c) y.z) (hl : ys.length ≤ 4000000000000) :
    ∃ a5 c5 w5, (Builtin.append_ #[33, 33] 33 #[v, .slice (some ⟨W.heap.size, 0, none⟩) 1 1]).run Try.prog (W.alloc (.cells #[.string y.k, .slice y.a y.z.length y.c] 60)) = .ok (.slice a5 (ys.length + 1) c5) w5 ∧
      LayP w (w5.setCell ⟨B3, 0, none⟩ (.slice a5 (ys.length + 1) c5)) B3 (ys ++ [y]) (.slice a5 (ys.length + 1) c5) ∧ Chg (fun j => j = B3 ∨ v.ownBlock = some j) W (w5.setCell ⟨B3, 0, none⟩ (.slice a5 (ys.length + 1) c5)) ∧ Boxed w5 B3 33 v ∧ ((Value.slice a5 (ys.length + 1) c5).ownBlock = v.ownBlock ∨ ∃ q, (Value.slice a5 (ys.length + 1) c5).ownBlock = some q ∧ W.heap.size ≤ q) := by
  obtain ⟨z2, hz2⟩ : ∃ z2, z2 = W.alloc (.cells #[.string y.k, .slice y.a y.z.length y.c] 60) := ⟨_, rfl⟩
  have hb : Below W.heap.size W z2 := by rw [hz2]; exact (Below.refl _ _).alloc (Nat.le_refl _) _
  have hL := h.below hb
  have ho := hL.own
  have hsrc : Src Try.prog 2 33 (.slice (some ⟨W.heap.size, 0, none⟩) 1 1) 1 (duoP y) z2 := by rw [hz2]; exact srcPn_one W y _
  obtain ⟨v5, w5, hrun, ho5, hg5, hat5⟩ := run_append_S (P := Try.prog) 33 33 33 _ Try.underlying33 infoPn rfl ho _ 1 _ hsrc (by unfold maxLen; omega) (by omega) (hL.bel.size)
  rw [hz2] at hrun
  have hne : ∀ {j t u}, Boxed z2 j t u → t ≠ 60 → v.ownBlock ≠ some j := fun {j t u} hB ht e => by
    obtain ⟨cur, h2⟩ := OwnS.type ho e
    rw [show z2.heap[j]? = _ from hB] at h2; cases h2; exact ht rfl
  have b3 := hL.box.kept hg5 (Ne.symm (hne hL.box (by decide)))
  have ho6 : OwP w5 w.heap.size v5 (ys ++ [y]) := by
    unfold OwP; rw [List.length_append, celP_append, celP_one]; exact ho5
  have hn5 : v5.ownBlock ≠ some B3 := fun e => by
    obtain ⟨cur, h2⟩ := OwnS.type ho6 e
    rw [show w5.heap[B3]? = _ from b3] at h2; cases h2
  have hval5 : ValP w5 w.heap.size (ys ++ [y]) := by
    have hv2 : ValP z2 w.heap.size (ys ++ [y]) := fun x hx => by
      rcases List.mem_append.1 hx with hx | hx
      · exact hL.val x hx
      · obtain rfl : x = y := by simpa using hx
        exact hv.below hb
    exact ValP.hold hv2 fun j cur hj => hg5.block j (Array.getElem?_eq_some_iff.1 hj).1 fun e => by
      obtain ⟨cur', h2⟩ := OwnS.type ho e.symm
      rw [hj] at h2; cases h2
  have hb3 := h.low
  obtain ⟨a5, c5, ev, _⟩ := OwnS.open ho6
  rw [List.length_append] at ev
  subst ev
  refine ⟨a5, c5, w5, hrun, ⟨b3.set _, OwnS.keep ho6 fun j hj => Below.heap_setCell _ _ _ _ (fun e => hn5 (Eq.trans hj (congrArg some e))), ValP.hold hval5 fun j cur hj => Below.heap_setCell _ _ _ _ (fun e => by
      rw [e, show w5.heap[B3]? = _ from b3] at hj; cases hj), ?_, hb3⟩, ?_, b3, ?_⟩
  · exact (hL.bel.grown hg5 hL.bel.size fun k e => (OwnS.inside hL.own k e).1).setCell (p := ⟨B3, 0, none⟩) hb3 _
  · exact ((Chg.new hb).trans (Chg.of_grown (S := fun j => v.ownBlock = some j) hg5 fun k _ e => e) fun j _ e => .inr e).setCell _ _ fun _ => .inl rfl
  · rcases hat5 with e | e
    · exact .inl e
    · exact .inr ⟨_, e, hb.size⟩

/-- Between two rounds. -/
def JP (w : World) (B3 : Nat) (pre : List Sc) (X : World) : Prop := ∃ v, LayP w X B3 (pre.map (·.p)) v ∧ (pre = [] → v = .slice none 0 0) ∧ ∀ y ∈ pre, ∀ j, y.S j → j < X.heap.size ∧ v.ownBlock ≠ some j
theorem JP.from {w : World} {B3 B : Nat} (hB : w.heap.size ≤ B) : OwnFrom B (JP w B3) := fun _pre _X _Y _row ⟨v, h, h0, h1⟩ hg hr =>
  ⟨v, h.grown hg fun j e => ⟨Nat.le_trans hB (hr j e).1, (hr j e).2⟩, h0, fun y hy j hj => ⟨Nat.lt_of_lt_of_le (h1 y hy j hj).1 hg.size, (h1 y hy j hj).2⟩⟩

theorem scan_z {A : Cont} (h : Fine A) (fr to : List UInt8) (n : Int) : (scanA A fr to n).length ≤ 4000000000000 ∧ ∀ t ∈ scanA A fr to n, t.2.length ≤ 4096 := by
  unfold scanA
  refine ⟨Nat.le_trans (List.length_filterMap_le _ _) (Nat.le_trans (List.length_filter_le _ _) h.keys), fun t ht => ?_⟩
  obtain ⟨e, he, h1⟩ := List.mem_filterMap.1 ht
  have he := (List.mem_filter.1 he).1
  by_cases h0 : upV e.2 n = 0
  · rw [if_pos h0] at h1; cases h1
  · rw [if_neg h0] at h1
    have h2 := upV_le e.2 n
    have h3 : vr e.2 (upV e.2 n - 1) ∈ e.2 := vr_mem (by omega)
    unfold live at h1
    simp only [] at h1
    split at h1
    · cases h1
    · cases h1; exact h.vl e he _ h3

set_option maxRecDepth 100000 in
set_option maxHeartbeats 4000000 in
theorem scanned_any {w : World} {F : Nat → Prop} {s : Nat} {mb : Option Nat} {M : List Ky} (h : Sto w F s mb M) (hf : Fine (abs M)) (fr to : ByteArray) (n : Int) :
    Calls Try.prog 24 #[.pointer (some ⟨s, 0, none⟩), .string fr, .string to, .int .i64 n] w fun e w' => ∃ a n' c, e = .returned (.slice a n' c) ∧ (∃ zp, OwP w' w.heap.size (.slice a n' c) zp ∧ ValP w' w.heap.size zp ∧ saysP zp = scanA (abs M) fr.data.toList to.data.toList n) ∧ Below w.heap.size w w' := by
  have hfn : ∀ (fn : Fn) (a b : Array Value) (w : World), (binOp .eql 70 (.func fn a b) .nilFunc).run Try.prog w = .ok (.bool false) w := fun _ _ _ _ => rfl
  obtain ⟨hsl, hsz⟩ := scan_z hf fr.data.toList to.data.toList n
  obtain ⟨tells, htl⟩ : ∃ t, t = scanA (abs M) fr.data.toList to.data.toList n := ⟨_, rfl⟩
  have hfound : ∀ W, Below w.heap.size w W → Calls Try.prog 54 #[.pointer (some ⟨s, 0, none⟩), .string fr, .string to, .int .i64 n] W fun e w' => (∃ v zs, e = .returned v ∧ OwP w' W.heap.size v zs ∧ (∀ y ∈ zs, ValF W F y) ∧ saysP zs = tells) ∧ Below W.heap.size W w' := fun W hW => by
    rw [htl]; exact found_any (h.below hW) hf fr to n
  have hFl := h.lt
  rw [← htl] at hsl hsz ⊢
  obtain ⟨U, hU⟩ : ∃ U, U = w.alloc (.cells #[.slice none 0 0] 33) := ⟨_, rfl⟩
  have hbU : Below w.heap.size w U := by rw [hU]; exact (Below.refl _ _).alloc (Nat.le_refl _) _
  have bO : Boxed U w.heap.size 33 (.slice none 0 0) := by rw [hU]; exact Boxed.new w _ _
  have hzU : U.heap.size = w.heap.size + 1 := by rw [hU]; simp
  have HZU := hide_it hzU
  clear hzU
  have hsc := scan_any (some ⟨s, 0, none⟩) fr to n U
  have HB := hide_it hbU
  have HO := hide_it bO
  have HFO := hide_it hfound
  have HFL := hide_it hFl
  have HSL := hide_it hsl
  have HSZ := hide_it hsz
  clear h hf hbU bO hfound hFl hsl hsz htl
  refine (callsIn_wide (n := 5)).1 ?_
  refine callsIn_of_wp_marks Try.func24 rfl trivial ?_ rfl
  simp only [Try.ntmps24, List.size_toArray, List.length_cons, List.length_nil, Nat.reduceAdd, Nat.reduceSub, Array.replicate_succ, Array.replicate_zero, List.push_toArray, List.append_toArray, List.nil_append, List.cons_append]
  gi_wp2_with fail
  rw [← hU]
  clear hU
  refine ⟨trivial, (callsIn_wide.2 hsc).mono ?_⟩
  rintro e W1 ⟨rfl, h4, hb1⟩
  have hbw1 := HB.out.trans (hb1.mono HB.out.size)
  have hO1 : Boxed W1 w.heap.size 33 (.slice none 0 0) := (hb1.block _ HO.out.lt).trans HO.out
  have hz1 := hb1.size
  have HB1 := hide_it hbw1
  have HO1 := hide_it hO1
  have H4 := hide_it h4
  clear hsc h4 hb1 hbw1 hO1
  gi_wp2_with fail
  generalize hact : ({ tmps := _, defers := [] } : Act) = act0
  have hzU := HZU.out
  refine range_tellsX (α := Sc) (F := Fence.wide) rfl (by omega) (gf := 53) (lb := #[.pointer (some ⟨U.heap.size, 0, none⟩), .pointer (some ⟨U.heap.size + 1, 0, none⟩), .pointer (some ⟨U.heap.size + 2, 0, none⟩), .pointer (some ⟨U.heap.size + 3, 0, none⟩)]) (by rw [← hact]; rfl) trivial (enters_of Try.func53 (by kernel_rfl) rfl)
    (tellsS _ U.heap.size (w.heap.size + 1) (F := F) (some ⟨s, 0, none⟩) fr to n tells W1 (by omega) H4.out (fun j hj => by have := HFL.out j hj; omega) (by omega) HSL.out HSZ.out (fun W hW => HFO.out W (HB1.out.trans (hW.mono HB1.out.size)))) (Below.refl _ _)
    (fun _ _ _ _ => KpC.trans) (fun x W l o o' _ h1 h2 => ⟨by simp, fun j cur t fr _ hj => (World.putObj_heap_other (fun e => by rw [e, h1] at hj; cases hj; cases h2)).trans hj⟩)
    (fun pre x X W l o o' _ h1 h2 h3 => ?hG) (fun _ => rfl)
    (JP w w.heap.size) (fun _ _ _ => False) (JP.from (by omega)) (fun c _ _ _ _ h => h.elim) ⟨.slice none 0 0, ⟨HO1.out, OwnS.nil _ _ _ _, (fun y hy => by cases hy), HB1.out, Nat.le_refl _⟩, fun _ => rfl, fun y hy => by cases hy⟩
    (fun x => .cells #[.string x.p.k, .slice x.p.a x.p.z.length x.p.c] 60) (fun x b => { tmps := (act0.tmps.setIfInBounds 23 (.agg #[.string x.p.k, .slice x.p.a x.p.z.length x.p.c])).setIfInBounds 11 (.pointer (some ⟨b, 0, none⟩)), defers := [] }) (fun x W o => KpC.of_below ((Below.refl _ _).alloc (Nat.le_refl _) _)) (fun pre x X W o h => ?hGa) ?assign ?body ?done ?stop
  case hG =>
    refine ⟨h3.b.hold fun j hj => ?_, fun j hj => ?_, h3.same, h3.cnt⟩
    · obtain ⟨cur, h5⟩ := h3.b.typed hj
      exact World.putObj_heap_other (fun e => by rw [e, h1] at h5; cases h5; cases h2)
    · obtain ⟨q1, q2⟩ := h3.s j hj
      refine ⟨by simpa using q1, ?_⟩
      rcases q2 with ⟨q2, cur, q3⟩ | q2
      · exact .inl ⟨q2, cur, (World.putObj_heap_other (fun e => by rw [e, h1] at q3; cases q3; cases h2)).trans q3⟩
      · exact .inr q2
  case hGa =>
    have hb : Below W.heap.size W (W.alloc o) := (Below.refl _ _).alloc (Nat.le_refl _) _
    refine ⟨h.b.below hb, fun j hj => ?_, h.same, h.cnt⟩
    obtain ⟨q1, q2⟩ := h.s j hj
    refine ⟨Nat.lt_of_lt_of_le q1 hb.size, ?_⟩
    rcases q2 with ⟨q2, cur, q3⟩ | q2
    · exact .inl ⟨q2, cur, (hb.block j q1).trans q3⟩
    · exact .inr q2
  case assign =>
    clear hzU
    subst hact
    intro l x W K hK
    gi_wp2
    simp only [List.setIfInBounds_toArray, List.set_cons_zero, List.set_cons_succ] at hK
    exact hK
  case body =>
    subst hact
    rintro l b pre x X W hlw hXb hbx ⟨r, hlr⟩ ⟨o, hlo, hoc⟩ ⟨v, hL, hn0, hns⟩ hg hG
    have hrow : ∀ j, some l = some j → w.heap.size ≤ j ∧ ∃ o : Obj, X.heap[j]? = some o ∧ o.isCells = false := fun j e1 => by cases e1; exact ⟨by omega, o, hlo, hoc⟩
    have hLW := hL.grown hg hrow
    have hXw := hL.bel.size
    have hXW := hg.size
    have hlen : (pre.map (·.p)).length ≤ 4000000000000 := by rw [List.length_map]; exact Nat.le_of_lt hG.cnt
    obtain ⟨a5, c5, w5, hrun, hL5, hc5, hb5, hat5⟩ := app_layP hLW x.p (hG.b.mono hXw) hlen
    have hxn : ∀ j, x.S j → v.ownBlock ≠ some j := fun j hj e => by
      cases pre with
      | nil => rw [hn0 rfl] at e; cases e
      | cons y r =>
        rcases hG.same y (List.mem_cons_self ..) j hj with h1 | h1
        · exact (hns y (List.mem_cons_self ..) j h1).2 e
        · have := (OwnS.inside hL.own j e).2; omega
    have hxb : ∀ j, x.S j → j ≠ w.heap.size := fun j hj => by
      rcases (hG.s j hj).2 with ⟨h1, _⟩ | h1
      · have := HFL.out j h1; omega
      · omega
    have hkp : KpC x.S W (w5.setCell ⟨w.heap.size, 0, none⟩ (.slice a5 ((pre.map (·.p)).length + 1) c5)) := ⟨hc5.size, fun j cur t fr hj hh => (hc5.block j (Array.getElem?_eq_some_iff.1 hh).1 fun e => by
      rcases e with e | e
      · exact hxb j hj e
      · exact hxn j hj e).trans hh⟩
    have hkf : KeepsFrom W1.heap.size W (w5.setCell ⟨w.heap.size, 0, none⟩ (.slice a5 ((pre.map (·.p)).length + 1) c5)) := chg_keeps _ hc5 fun j hj => by
      rcases hj with rfl | hj
      · exact ⟨_, _, hLW.box⟩
      · obtain ⟨cur, h2⟩ := OwnS.type hLW.own hj; exact ⟨_, _, h2⟩
    have hjp : JP w w.heap.size (pre ++ [x]) (w5.setCell ⟨w.heap.size, 0, none⟩ (.slice a5 ((pre.map (·.p)).length + 1) c5)) := by
      refine ⟨_, by rw [List.map_append]; exact hL5, fun e => by simp at e, fun y hy j hj => ?_⟩
      have hs5 := hc5.size
      have hyW : j < W.heap.size ∧ v.ownBlock ≠ some j := by
        rcases List.mem_append.1 hy with hy | hy
        · have := hns y hy j hj; exact ⟨by omega, this.2⟩
        · obtain rfl := List.mem_singleton.1 hy; exact ⟨(hG.s j hj).1, hxn j hj⟩
      refine ⟨by omega, fun e => ?_⟩
      rcases hat5 with e2 | ⟨q, e2, e3⟩
      · rw [e2] at e; exact hyW.2 e
      · rw [e2] at e; cases e; omega
    have HFIN := hide_it (And.intro hkf (And.intro hkp hjp))
    obtain ⟨va, vc, ev, _⟩ := OwnS.open hLW.own
    subst ev
    have c9 := hLW.box.cell
    have d9 := hb5.cell
    have f9 := hb5.frozen
    have x0 := cell_of_row _ _ 0 _ _ _ hbx
    have x1 := cell_of_row _ _ 1 _ _ _ hbx
    clear hL hn0 hns hg hG hrow hLW hlen hL5 hc5 hb5 hat5 hxn hxb hkp hkf hjp hbx hlo hlr
    obtain ⟨N2, hN2⟩ : ∃ N2, N2 = (pre.map (·.p)).length := ⟨_, rfl⟩
    rw [← hN2] at hrun c9 d9 HFIN
    clear hN2 hzU
    gi_wp2_with (gi_at_builtin; refine wpListIn_append_run rfl _ _ _ rfl _ _ _ _ rfl rfl hrun ?_)
    exact HFIN.out
  case done =>
    subst hact
    rintro D xs W hD hS ⟨v, hL, _, _⟩ hK
    have c5 := hL.box.cell
    obtain ⟨va, vc, ev, _⟩ := OwnS.open hL.own
    subst ev
    have HL := hide_it hL
    have HS := hide_it hS
    have HKK := hide_it hK
    clear hL hK hS hzU
    gi_wp2
    refine ⟨by simp, .inl ⟨_, _, rfl, run_takeDeferred (w := W) HKK.out, ?_⟩⟩
    have hDc : ∀ (j : Nat) (cur : Array Value) (t : TypeId), W.heap[j]? = some (.cells cur t (0, 0)) → (W.putObj D (.deferred none)).heap[j]? = W.heap[j]? := fun j cur t hj => World.putObj_heap_other (fun e => by rw [e, HKK.out] at hj; cases hj)
    refine ⟨.slice va (xs.map (·.p)).length vc, by simp [results, Try.results24, go_sem], ⟨va, _, vc, rfl, ⟨xs.map (·.p), ?_, ?_, ?_⟩, HL.out.bel.trans (belowK_b (w := w) (Nat.le_refl _) _ D _ _ (by have := HZU.out; omega) HKK.out rfl rfl)⟩⟩
    · refine OwnS.keep HL.out.own fun j hj => ?_
      obtain ⟨cur, h2⟩ := OwnS.type HL.out.own hj
      exact hDc j _ _ h2
    · exact ValP.hold HL.out.val fun j cur hj => hDc j _ _ hj
    · have := HS.out
      unfold saysS at this
      unfold saysP
      rw [List.map_map]; exact this
  case stop =>
    rintro D c pre W _ _ h
    exact h.elim

end Go.Proofs.Ythaknohnccmfoaa
