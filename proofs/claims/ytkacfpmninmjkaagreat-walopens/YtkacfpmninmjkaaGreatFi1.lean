/- The program's All: the iterator that it answers, walked. -/
import Derived.Test.YtkacfpmninmjkaaGreatFw1
import Derived.Test.YtkacfpmninmjkaaGreatFm3
import Derived.Test.YtkacfpmninmjkaaGreatRg1
namespace Go.Proofs.YtkacfpmninmjkaaGreat
open Go.RowKit Go.Shelf

attribute [local go_sem] Oper.semAt_some

theorem i64_in {n : Int} (h1 : -9223372036854775808 ≤ n) (h2 : n ≤ 9223372036854775807) : IntKind.i64.wrap n = n := by
  simp [IntKind.wrap, IntKind.bits, IntKind.signed]
  omega

/-- What an iterator over a row reads between two rounds: the box in which its row's slice lies, and the row. -/
structure KpF (Bq : Nat) (v : Value) (W W' : World) : Prop where
  size : W.heap.size ≤ W'.heap.size
  box : W'.heap[Bq]? = W.heap[Bq]?
  row : ∀ j, v.ownBlock = some j → W'.heap[j]? = W.heap[j]?
theorem KpF.refl (Bq : Nat) (v : Value) (W : World) : KpF Bq v W W := ⟨Nat.le_refl _, rfl, fun _ _ => rfl⟩
theorem kpF_t {Bq : Nat} {v : Value} {A B C : World} (h : KpF Bq v A B) (k : KpF Bq v B C) : KpF Bq v A C :=
  ⟨Nat.le_trans h.size k.size, k.box.trans h.box, fun j hj => (k.row j hj).trans (h.row j hj)⟩
theorem kpF_b {Bq : Nat} {v : Value} {w : World} (hB : Bq < w.heap.size) (hv : ∀ j, v.ownBlock = some j → j < w.heap.size) (W : World) (l : Nat) (o o' : Obj) (hl : w.heap.size ≤ l) (_h : W.heap[l]? = some o) (_ : o.isCells = false) : KpF Bq v W (W.putObj l o') :=
  ⟨by simp, World.putObj_heap_other (by omega), fun j hj => World.putObj_heap_other (by have := hv j hj; omega)⟩
theorem OwnB.heap' {w w' : World} {base : Nat} {v : Value} {zs : List Nat} (h : OwnB w base v zs) (hk : ∀ j, v.ownBlock = some j → w'.heap[j]? = w.heap[j]?) : OwnB w' base v zs := by
  refine ⟨h.1, ?_⟩
  rcases h.2 with h2 | ⟨g, cap, cur, rfl, h3, hh, h4⟩
  · exact .inl h2
  · exact .inr ⟨g, cap, cur, rfl, h3, (hk g rfl).trans hh, h4⟩

/-- What is handed over: where the frame ends, the payload's slice, the payload. -/
abbrev Hand := Nat × Value × List Nat
/-- What is told of it. -/
def tl (x : Hand) : Nat × List Nat := (x.1, x.2.2)
/-- What is known of a thing that is handed over. -/
def GF (bs : List Nat) (pre : List Hand) (x : Hand) (X W : World) : Prop := (frs bs)[pre.length]? = some (tl x) ∧ OwnB W X.heap.size x.2.1 x.2.2

theorem take_came {α β : Type} (f : α → β) (pre : List α) (x : α) (y : β) (rest : List β) (h : f x = y) : (pre ++ [x]).map f = ((pre.map f ++ [y]) ++ rest).take (pre ++ [x]).length := by
  subst h
  rw [List.take_left' (by simp)]
  simp

theorem rdF_code {bs : List Nat} {c : Nat} (h : rdF bs = .error c) : c ≠ 0 := by
  intro e
  subst e
  unfold rdF at h
  repeat' split at h
  all_goals cases h

set_option maxRecDepth 100000 in
set_option maxHeartbeats 2000000 in
theorem walkF (n l Bq base : Nat) (v : Value) (bs : List Nat) (W : World) (hbox : Boxed W Bq 39 v) (hown : OwnB W base v bs) (h8 : All8 bs) (hn : 1 ≤ n) (hl : bs.length ≤ 140737488355328)
    (J Jx : List Hand → World → Prop)
    (hY : ∀ pre x X W1, J pre X → Below X.heap.size X W1 → GF bs pre x X W1 → YieldAt Fence.wide (n - 1) Tryz.prog l #[.int .i64 (x.1 : Int), x.2.1] W1 fun e W' =>
      (e = .returned (.bool true) ∧ J (pre ++ [x]) W' ∧ KpF Bq v W1 W') ∨ (e = .returned (.bool false) ∧ Jx (pre ++ [x]) W')) (hJ0 : J [] W) :
    CallsIn Fence.wide n Tryz.prog 80 #[.func (.yield l) #[] #[], .pointer (some ⟨Bq, 0, none⟩)] W fun e W' => (∃ v, e = .returned v) ∧
      ((∃ xs X, xs.map tl = frs bs ∧ J xs X ∧ Below X.heap.size X W') ∨ (∃ pre X, pre.map tl = (frs bs).take pre.length ∧ Jx pre X ∧ Below X.heap.size X W')) := by
  obtain ⟨a, cap, rfl, hr, hc, hm, hnil⟩ := hown.row
  have hBl := hbox.lt
  refine callsIn_of_wp Tryz.func80 rfl trivial ?_ rfl
  simp only [Tryz.ntmps80, List.size_toArray, List.length_cons, List.length_nil, Nat.reduceAdd, Nat.reduceSub, Array.replicate_succ, Array.replicate_zero, List.push_toArray, List.append_toArray, List.nil_append, List.cons_append]
  gi_wp2
  gi_loopw [3] (fun i wr => ∃ (e : Nat) (pre : List Hand) (X : World), e ≤ bs.length ∧ i = .int .i64 (e : Int) ∧ J pre X ∧ Below X.heap.size X wr ∧ Hid (frs bs = pre.map tl ++ frsAt bs e) ∧ Hid (Boxed wr Bq 39 (.slice a bs.length cap)) ∧ Hid (OwnB wr base (.slice a bs.length cap) bs)) (fun i _ => bs.length - (intOf i).toNat)
  case atStart => exact ⟨0, [], W, Nat.zero_le _, rfl, hJ0, Below.refl _ _, rfl, hbox, hown⟩
  case round =>
    obtain ⟨e, pre, X, he, rfl, hJs, hXw, HF, HB, HO⟩ := hrel
    clear hbox hown hr hJ0
    have hcell := HB.out.cell
    obtain ⟨a', cap', ev, hrow, _, _, _⟩ := HO.out.row
    cases ev
    unfold maxLen at hm
    have hec : e ≤ cap := by omega
    obtain ⟨A, hA⟩ : ∃ A, A = if cap = e then a else a.map (fun x => x.add e) := ⟨_, rfl⟩
    have hAr : RowB wr A (bs.drop e) := by
      rw [hA]
      by_cases hce : cap = e
      · exact .inl (by rw [List.length_drop]; omega)
      · rw [if_neg hce]; exact ((RowLt.of_row hrow).drop e).row
    have hAn : A = none → (bs.drop e).length = 0 ∧ cap - e = 0 := by
      intro h
      rw [hA] at h
      by_cases hce : cap = e
      · rw [if_pos hce] at h
        have := hnil h
        simp; omega
      · rw [if_neg hce] at h
        have h2 : a = none := by cases a <;> simp_all
        have := hnil h2
        simp; omega
    have hread := read_any A (cap - e) (bs.drop e) wr hAr (h8.drop e) (by simp; omega) (by unfold maxLen; omega) hAn
    rw [List.length_drop] at hread
    have hA2 := hA.symm
    clear hAr hAn hrow hA
    have hwl : ∀ m : Nat, e + m ≤ bs.length → IntKind.i64.wrap ((e : Int) + (m : Int)) = ((e + m : Nat) : Int) := fun m hm => by
      rw [i64_in (by omega) (by omega)]; simp
    cases hR : rdF (bs.drop e) with
    | error c =>
      rw [hR] at hread
      have hc0 : ¬ (c : Int) = 0 := by
        have : c ≠ 0 := rdF_code hR
        omega
      have HE := hide_it (frsAt_stop hR)
      clear hR hwl
      gi_wp2_with (refine ⟨trivial, ?_⟩; gi_at_call 81; refine (callsIn_wide.2 hread).mono ?_)
      rintro e1 w1 ⟨he1, hb1⟩
      have he1' : e1 = .returned (.tuple #[.slice none 0 0, .int .i64 0, .int .i64 (c : Int)]) := he1
      subst he1'
      clear he1 hread
      gi_wp2
      refine bodyPost_ret (results_none rfl _ _ _) rfl ?_
      exact ⟨⟨_, rfl⟩, .inl ⟨pre, X, by rw [HF.out, HE.out, List.append_nil], hJs, hXw.trans (hb1.mono hXw.size)⟩⟩
    | ok m =>
      rw [hR] at hread
      have hm9 : e + (m + 9) ≤ bs.length := by
        have h := (rdF_ok hR).2.2.2.1
        rw [List.length_drop] at h
        omega
      obtain ⟨M, hM⟩ : ∃ M, M = m + 9 := ⟨_, rfl⟩
      rw [← hM] at hm9
      obtain ⟨E, hE⟩ : ∃ E, E = e + M := ⟨_, rfl⟩
      have hem := hide_it (hwl M hm9)
      rw [← hE] at hem
      have hEl := hide_it (show E ≤ bs.length by omega)
      have hME := hide_it (show e < E by omega)
      replace hm9 := hide_it hm9
      replace hM := hide_it hM
      replace hE := hide_it hE
      have HE : Hid (frs bs = pre.map tl ++ (e + (m + 9), ((bs.drop e).drop 5).take m) :: frsAt bs (e + (m + 9))) := by
        have h := HF.out
        rwa [frsAt_step hR] at h
      clear hR hwl
      gi_wp2_with (refine ⟨trivial, ?_⟩; gi_at_call 81; refine (callsIn_wide.2 hread).mono ?_)
      rintro e1 w1 ⟨⟨v1, he1, ho1⟩, hb1⟩
      rw [← hM.out] at he1
      subst he1
      rw [← hM.out, ← hE.out] at HE
      replace hem := hem.out
      replace hEl := hEl.out
      replace hME := hME.out
      obtain ⟨hnx, hall⟩ := frs_next HE.out
      rw [List.length_map] at hnx
      have hbX := hXw.trans (hb1.mono hXw.size)
      obtain ⟨fn, tmps, assign, body, hy, hRn⟩ := hY pre (E, v1, ((bs.drop e).drop 5).take m) X w1 hJs hbX ⟨hnx, ho1.mono hXw.size⟩
      have hB1 : Boxed w1 Bq 39 (.slice a bs.length cap) := HB.out.kept (grown_none hb1) (by simp)
      have hO1 := HO.out.below hb1
      have HALL := hide_it hall
      clear hread hM hE hm9 hnx hall HE HF HB HO hA2 hcell
      replace hB1 := hide_it hB1
      replace hO1 := hide_it hO1
      gi_wp2
      refine hRn.mono ?_
      rintro e2 W3 (⟨rfl, hJ3, hk3⟩ | ⟨rfl, hJx3⟩)
      · have HB3 := hide_it (show Boxed W3 Bq 39 (.slice a bs.length cap) from hk3.box.trans hB1.out)
        have HO3 := hide_it (hO1.out.heap' hk3.row)
        gi_wp2
        go_roundw
        case rel => exact ⟨E, _, W3, hEl, rfl, hJ3, Below.refl _ _, (by show _ = _; rw [HALL.out]; simp [tl]), HB3, HO3⟩
        case measure => simp [intOf]; omega
      · gi_wp2
        refine bodyPost_ret (results_none rfl _ _ _) rfl ?_
        refine ⟨⟨_, rfl⟩, .inr ⟨_, W3, ?_, hJx3, Below.refl _ _⟩⟩
        rw [HALL.out]
        exact take_came tl pre _ _ _ rfl

/-- Where the row's box and the row lie: ahead of this world's end. -/
theorem tellsF (n Bq base : Nat) (v : Value) (bs : List Nat) (w : World) (hbox : Boxed w Bq 39 v) (hown : OwnB w base v bs) (h8 : All8 bs) (hn : 1 ≤ n) (hl : bs.length ≤ 140737488355328) :
    Tells Fence.wide n Tryz.prog 80 #[.pointer (some ⟨Bq, 0, none⟩)] (fun x : Hand => #[.int .i64 (x.1 : Int), x.2.1]) (GF bs) (KpF Bq v) (fun xs => xs.map tl = frs bs) (fun pre => pre.map tl = (frs bs).take pre.length) w := fun l J Jx W hW hY h0 =>
  walkF n l Bq base v bs W (hbox.kept (grown_none hW) (by simp)) (hown.below hW) h8 hn hl J Jx hY h0

theorem GF.put {bs : List Nat} {pre : List Hand} {x : Hand} {X W : World} {l : Nat} {o o' : Obj} (hl : W.heap[l]? = some o) (ho : o.isCells = false) (h : GF bs pre x X W) : GF bs pre x X (W.putObj l o') := by
  refine ⟨h.1, h.2.heap' fun j hj => World.putObj_heap_other fun e => ?_⟩
  subst e
  rcases h.2.2 with ⟨e2, _⟩ | ⟨g2, cap2, cur, e2, _, hgb, _⟩
  · rw [e2] at hj; cases hj
  · rw [e2] at hj; cases hj; rw [hgb] at hl; cases hl; cases ho

set_option maxRecDepth 100000 in
set_option maxHeartbeats 400000 in
theorem all_any (a : Option Addr) (cap : Nat) (bs : List Nat) (w : World) (hr : RowB w a bs) (hl : bs.length ≤ 140737488355328) (hnil : a = none → bs.length = 0 ∧ cap = 0) :
    Calls Tryz.prog 54 #[.slice a bs.length cap] w fun e w' => ∃ v Bq, e = .returned (.func (.func 80) #[] #[.pointer (some ⟨Bq, 0, none⟩)]) ∧ Boxed w' Bq 39 v ∧ OwnB w' w.heap.size v bs ∧ w.heap.size ≤ Bq ∧ Below w.heap.size w w' := by
  have hmf : ∀ (fn : Fn) (first cap : Array Value) (w : World), (Instr.makeFunc fn first cap).run Tryz.prog w = .ok (.func fn first cap) w := fun _ _ _ _ => rfl
  have hcl := clone_any a cap bs w hr hl hnil
  clear hr
  go_enter Tryz.func54, Tryz.ntmps54
  go_wp2_with fail
  refine hcl.mono ?_
  rintro e w1 ⟨⟨v, rfl, hown⟩, hb1⟩
  obtain ⟨a1, c1, rfl, hr1, _, _, _⟩ := hown.row
  clear hcl hr1
  go_wp2_with fail
  go_ret
  exact ⟨_, w1.heap.size, rfl, Boxed.new w1 _ _, hown.below ((Below.refl _ _).alloc (Nat.le_refl _) _), hb1.size, hb1.alloc hb1.size _⟩

end Go.Proofs.YtkacfpmninmjkaaGreat
