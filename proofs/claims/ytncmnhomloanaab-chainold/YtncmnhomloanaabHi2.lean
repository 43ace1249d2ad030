/- The law's walk through a chain, whole or left early. -/
import Derived.Test.YtncmnhomloanaabHi1
import Derived.Test.YtncmnhomloanaabRg2
namespace Go.Proofs.Ytncmnhomloanaab
open Go.RowKit Go.Shelf

attribute [local go_sem] Oper.semAt_some

theorem tellsL (n Bq p : Nat) (F : Nat → Prop) (a : Option Addr) (cap : Nat) (xs : List Lk) (w : World) (hbox : Boxed w Bq 23 (.pointer (some ⟨p, 0, none⟩))) (h : Hn w F p (.slice a xs.length cap) xs) (hn : 1 ≤ n) (hl : xs.length ≤ 4000000000000) :
    Tells Fence.wide n Try.prog 17 #[.pointer (some ⟨Bq, 0, none⟩)] (fun x : Lk => #[lkV x]) (GL xs) (KpL a xs) (fun ys => ys = xs.reverse) (fun pre => ∃ k, k ≤ xs.length ∧ pre = xs.reverse.take k) w := fun l J Jx W hW hY h0 =>
  walkC_any n l Bq p F a cap xs W ((hW.cell (p := ⟨Bq, 0, none⟩) hbox.lt).trans hbox.cell) (h.below hW) hn hl J Jx hY h0

/-- The list that a law lays up: a box with a slice of its own. -/
structure Lay (w W : World) (ob mb : Nat) (m : Int) (ys : List Lk) (v : Value) : Prop where
  box : Boxed W ob 25 v
  own : OwnS W w.heap.size 32 3 v ys.length (celL ys)
  most : Boxed W mb 3 (.int .i64 m)
  bel : Below w.heap.size w W
theorem Lay.grown {w W W' : World} {ob mb : Nat} {m : Int} {ys : List Lk} {v : Value} {r : Option Nat} (h : Lay w W ob mb m ys v) (hg : W.grownBy W' r) (hr : ∀ j, r = some j → w.heap.size ≤ j ∧ ∃ o : Obj, W.heap[j]? = some o ∧ o.isCells = false) : Lay w W' ob mb m ys v := by
  have ne : ∀ {j cur t}, W.heap[j]? = some (.cells cur t (0, 0)) → some j ≠ r := fun {j cur t} hj e => by
    obtain ⟨_, o, h1, h2⟩ := hr j e.symm
    rw [hj] at h1; cases h1; cases h2
  refine ⟨h.box.kept hg (ne h.box), OwnS.keep h.own fun j hj => ?_, h.most.kept hg (ne h.most), h.bel.grown hg h.bel.size fun j e => (hr j e).1⟩
  obtain ⟨cur, hc⟩ := OwnS.type h.own hj
  exact hg.block j (OwnS.inside h.own j hj).2 (ne hc)
theorem Lay.from {w : World} {ob mb B : Nat} {m : Int} (hB : w.heap.size ≤ B) : OwnFrom B (fun (pre : List Lk) W => ∃ v, Lay w W ob mb m pre v) := fun _ _ _ _ ⟨v, h⟩ hg hr => ⟨v, h.grown hg fun j e => ⟨Nat.le_trans hB (hr j e).1, (hr j e).2⟩⟩

set_option maxRecDepth 100000 in
set_option maxHeartbeats 4000000 in
theorem walk_any {w : World} {F : Nat → Prop} {p : Nat} {v : Value} {xs : List Lk} (h : Hn w F p v xs) (hl : xs.length ≤ 3600000000000) (m : Int) (hm : -9223372036854775808 ≤ m ∧ m ≤ 9223372036854775807) :
    Calls Try.prog 6 #[.pointer (some ⟨p, 0, none⟩), .int .i64 m] w fun e w' => (∃ v', e = .returned v' ∧ OwnS w' w.heap.size 32 3 v' (walkL xs m).length (celL (walkL xs m))) ∧ Below w.heap.size w w' := by
  have hfn : ∀ (fn : Fn) (a b : Array Value) (w : World), (binOp .eql 28 (.func fn a b) .nilFunc).run Try.prog w = .ok (.bool false) w := fun _ _ _ _ => rfl
  obtain ⟨U, hU⟩ : ∃ U, U = (w.alloc (.cells #[.int .i64 m] 3)).alloc (.cells #[.slice none 0 0] 25) := ⟨_, rfl⟩
  have hbU : Below w.heap.size w U := by rw [hU]; exact ((Below.refl _ _).alloc (Nat.le_refl _) _).alloc (by simp) _
  have hzU : U.heap.size = w.heap.size + 1 + 1 := by rw [hU]; simp
  have bM : Boxed U w.heap.size 3 (.int .i64 m) := by rw [hU]; exact (Boxed.new w _ _).alloc _
  have bO : Boxed U (w.heap.size + 1) 25 (.slice none 0 0) := by
    have := Boxed.new (w.alloc (.cells #[.int .i64 m] 3)) 25 (.slice none 0 0)
    rw [hU]; simpa using this
  obtain ⟨W1, hW1⟩ : ∃ W1, W1 = U.alloc (.cells #[.pointer (some ⟨p, 0, none⟩)] 23) := ⟨_, rfl⟩
  have hb1 : Below U.heap.size U W1 := by rw [hW1]; exact (Below.refl _ _).alloc (Nat.le_refl _) _
  have bQ : Boxed W1 (w.heap.size + 1 + 1) 23 (.pointer (some ⟨p, 0, none⟩)) := by rw [hW1, ← hzU]; exact Boxed.new U _ _
  have hbw1 := hbU.trans (hb1.mono (by omega))
  have hL1 : Lay w W1 (w.heap.size + 1) w.heap.size m [] (.slice none 0 0) := ⟨by rw [hW1]; exact bO.alloc _, OwnS.nil _ _ _ _, by rw [hW1]; exact bM.alloc _, hbw1⟩
  obtain ⟨a, cap, ev, hrow0, _, _, _, _⟩ := h.row
  subst ev
  have hag : ∀ g o, a = some ⟨g, o, none⟩ → xs.length = 0 ∨ g < w.heap.size := fun g o e => by
    by_cases h0 : xs.length = 0
    · exact .inl h0
    · obtain ⟨g', o', e', hg', _⟩ := hrow0.here (i := 0) (by omega)
      rw [e] at e'; cases e'; exact .inr hg'
  have HAG := hide_it hag
  clear hrow0 hag
  have hH1 := h.below hbw1
  have hall := all_any (some ⟨p, 0, none⟩) U
  rw [← hW1] at hall
  have c0 : W1.cell? ⟨w.heap.size, 0, none⟩ = some (.int .i64 m) := hL1.most.cell
  clear h bM bO hb1 hW1
  refine (callsIn_wide (n := 3)).1 ?_
  refine callsIn_of_wp_marks Try.func6 rfl trivial ?_ rfl
  simp only [Try.ntmps6, List.size_toArray, List.length_cons, List.length_nil, Nat.reduceAdd, Nat.reduceSub, Array.replicate_succ, Array.replicate_zero, List.push_toArray, List.append_toArray, List.nil_append, List.cons_append]
  gi_wp2_with fail
  rw [← hU]
  clear hU
  refine ⟨trivial, (callsIn_wide.2 hall).mono ?_⟩
  rintro e w1 ⟨rfl, hw1⟩
  obtain rfl := hw1.symm
  clear hall hw1
  by_cases hm0 : m = 0
  · subst hm0
    clear hL1 hH1 hbU
    gi_wp2
    refine ⟨.slice none 0 0, by simp [results, Try.results6, go_sem], ⟨_, rfl, ?_⟩, hbw1⟩
    rw [show walkL xs 0 = [] by unfold walkL; simp]
    exact OwnS.nil _ _ _ _
  · have hmf : (m == 0) = false := by simpa using hm0
    gi_wp2_with fail
    generalize hact : ({ tmps := _, defers := [] } : Act) = act0
    refine range_tellsA (F := Fence.wide) rfl (by omega) (gf := 17) (lb := #[.pointer (some ⟨w.heap.size + 1 + 1, 0, none⟩)]) (by rw [← hact]; rfl) trivial (enters_of Try.func17 (by kernel_rfl) rfl)
      (tellsL _ (w.heap.size + 1 + 1) p F a cap xs W1 bQ hH1 (by omega) (by omega)) (Below.refl _ _) kpL_t (fun W l o o' _ h1 h2 => kpL_b W l o o' h1 h2) (fun _ _ _ _ _ _ _ _ _ _ h3 => h3) (fun _ => rfl)
      (fun pre W => (∃ v, Lay w W (w.heap.size + 1) w.heap.size m pre v) ∧ (m < 0 ∨ ((pre.length : Nat) : Int) < m)) (fun c pre W => c = .exit 0 ∧ ((∃ v, Lay w W (w.heap.size + 1) w.heap.size m pre v) ∧ ((pre.length : Nat) : Int) = m)) ?hI ?hIx ⟨⟨_, hL1⟩, by simp; omega⟩
      (fun x => .cells #[.int .i64 x.n, .string x.v, .bool x.d] 32) (fun x b => { tmps := (act0.tmps.setIfInBounds 17 (lkV x)).setIfInBounds 7 (.pointer (some ⟨b, 0, none⟩)), defers := [] }) (fun W o => ⟨by simp, fun r => r.below ((Below.refl _ _).alloc (Nat.le_refl _) _)⟩) (fun _ _ _ _ _ h => h) ?assign ?body ?done ?stop
    case hI => exact OwnFrom.and (Lay.from hbw1.size) (ownFrom_pure _ _)
    case hIx => exact fun c => OwnFrom.and (ownFrom_pure _ _) (OwnFrom.and (Lay.from hbw1.size) (ownFrom_pure _ _))
    case assign =>
      subst hact
      intro l x W K hK
      unfold lkV at *
      gi_wp2
      simp only [List.setIfInBounds_toArray, List.set_cons_zero, List.set_cons_succ] at hK
      exact hK
    case body =>
      subst hact
      rintro l b pre x X W hlw hXb hbx ⟨o, hlo, hoc⟩ ⟨⟨v, hL⟩, hmm⟩ hg hG
      have hsw := hbw1.size
      have hLW := hL.grown hg (fun j e => by cases e; exact ⟨by omega, o, hlo, hoc⟩)
      have hpl : pre.length < xs.length := hG.2.1
      obtain ⟨va, vc, ev, _, hnv, _, _, _⟩ := own_row hLW.own
      subst ev
      have c5 := hLW.box.cell
      have x0 : W.cell? ⟨b, 0, none⟩ = some (.int .i64 x.n) := cell_of_row _ _ _ _ _ _ hbx
      have x1 : W.cell? ⟨b, 1, none⟩ = some (.string x.v) := cell_of_row _ _ _ _ _ _ hbx
      have x2 : W.cell? ⟨b, 2, none⟩ = some (.bool x.d) := cell_of_row _ _ _ _ _ _ hbx
      have hb4 : Below W.heap.size W (W.alloc (.cells #[.int .i64 x.n, .string x.v, .bool x.d] 32)) := (Below.refl _ _).alloc (Nat.le_refl _) _
      have ho4 := OwnS.below hLW.own hb4
      have hs4 := src_one (e' := 32) Try.underlying25 W x 32
      have hne : ∀ {B : Nat} {t : TypeId} {u : Value}, Boxed W B t u → t ≠ 32 → some B ≠ (Value.slice va pre.length vc).ownBlock := fun hB ht e => by
        obtain ⟨cur, h2⟩ := OwnS.type hLW.own e.symm
        rw [show W.heap[_]? = _ from hB] at h2; cases h2; exact ht rfl
      have hn1 := hne hLW.box (by decide)
      have hn2 := hne hLW.most (by decide)
      have HL := hide_it hLW
      have HB4 := hide_it hb4
      have hww := hLW.bel.size
      have HG0 := hide_it hG
      clear hL hLW hbx hg hG hlo hne hm hH1 hL1
      unfold lkV
      gi_wp2_with (gi_at_builtin; refine stopHere ?_)
      unfold Hid
      refine wpListIn_append_S rfl _ _ 25 25 rfl (.agg #[.int .i64 0, .string ⟨#[]⟩, .bool false]) Try.underlying25 infoL rfl rfl ho4 _ rfl 1 _ hs4 (by unfold maxLen; omega) (by omega) (by have := hb4.size; omega) ?_
      intro v5 w5 ho5 hg5 hat5
      have bo5 : Boxed w5 (w.heap.size + 1) 25 _ := (HL.out.box.alloc _).kept hg5 hn1
      have bm5 : Boxed w5 w.heap.size 3 _ := (HL.out.most.alloc _).kept hg5 hn2
      have c6 := bo5.cell
      have f6 := bo5.frozen
      have c7 := bm5.cell
      have hlen : (pre ++ [x]).length = pre.length + 1 := by simp
      have ho6 : OwnS w5 w.heap.size 32 3 v5 (pre ++ [x]).length (celL (pre ++ [x])) := by rw [hlen, celL_append, celL_one]; exact ho5
      obtain ⟨a5, k5, ev5, _⟩ := own_row ho6
      rw [hlen] at ev5
      subst ev5
      have hb5 : Below w.heap.size w w5 := (HL.out.bel.trans (HB4.out.mono hww)).grown hg5 (by simp; omega) (fun j e => (OwnS.inside HL.out.own j e).1)
      have hn5 : (Value.slice a5 (pre.length + 1) k5).ownBlock ≠ some (w.heap.size + 1) := fun e => by
        obtain ⟨cur, h2⟩ := OwnS.type ho6 e
        rw [show w5.heap[_]? = _ from bo5] at h2; cases h2
      have hLay : Lay w (w5.setCell ⟨w.heap.size + 1, 0, none⟩ (.slice a5 (pre.length + 1) k5)) (w.heap.size + 1) w.heap.size m (pre ++ [x]) (.slice a5 (pre.length + 1) k5) :=
        ⟨bo5.set _, OwnS.keep ho6 (fun j hj => Below.heap_setCell _ _ _ _ (fun e => hn5 (by rw [hj]; exact congrArg some e))), bm5.other (by omega) _, hb5.setCell (p := ⟨w.heap.size + 1, 0, none⟩) (by show w.heap.size ≤ w.heap.size + 1; omega) _⟩
      have hkf : KeepsFrom W1.heap.size W (w5.setCell ⟨w.heap.size + 1, 0, none⟩ (.slice a5 (pre.length + 1) k5)) := by
        refine (((KeepsOthers.alloc W _).trans (KeepsOthers.of_grownBy hg5 (fun j o e ho => ?_))).trans (KeepsOthers.setCell _ _ _)).from _
        obtain ⟨cur, h2⟩ := OwnS.type ho4 e
        rw [h2] at ho; cases ho; rfl
      have hkp : KpL a xs W (w5.setCell ⟨w.heap.size + 1, 0, none⟩ (.slice a5 (pre.length + 1) k5)) := by
        refine ⟨?_, fun r => ?_⟩
        · have := hg5.size; simp at this ⊢; omega
        · by_cases h0 : xs.length = 0
          · exact .inl h0
          · refine r.keep fun g f e => ?_
            have hgw : g < w.heap.size := by
              rcases HAG.out g f e with h1 | h1
              · exact absurd h1 h0
              · exact h1
            exact (hLay.bel.block g hgw).trans (HL.out.bel.block g hgw).symm
      have HLay := hide_it hLay
      have HKF := hide_it hkf
      have HKP := hide_it hkp
      have HLen := hide_it hlen
      clear ho5 hg5 hat5 bo5 bm5 ho6 hb5 hLay hkf hkp hlen hs4 ho4 hb4 c5 x0 x1 x2 hn1 hn2 hn5
      by_cases hst : ((pre.length : Int) + 1) = m
      · have hq : ((pre.length : Int) + 1 == m) = true := by simpa using hst
        have HST := hide_it hst
        clear hst
        gi_wp2
        exact ⟨HKF.out, rfl, ⟨_, HLay.out⟩, by rw [HLen.out]; have := HST.out; omega⟩
      · have hq : ((pre.length : Int) + 1 == m) = false := by simpa using hst
        have HST := hide_it hst
        clear hst
        gi_wp2
        exact ⟨HKF.out, HKP.out, ⟨_, HLay.out⟩, by rw [HLen.out]; have := HST.out; omega⟩
    case done =>
      subst hact
      rintro D ys W hD hS ⟨⟨v, hL⟩, hmm⟩ hK
      have c5 := hL.box.cell
      have hys : walkL xs m = ys := by
        rw [hS] at hmm ⊢
        rw [List.length_reverse] at hmm
        by_cases h0 : m < 0
        · unfold walkL; rw [if_pos h0]
        · rw [walk_some xs h0, List.take_of_length_le (by rw [List.length_reverse]; omega)]
      obtain ⟨va, vc, ev, _⟩ := own_row hL.own
      subst ev
      have HO := hide_it hL.own
      have HBe := hide_it hL.bel
      have HY := hide_it hys
      have HKK := hide_it hK
      clear hL hys hS hmm hm hH1 hL1 hK
      gi_wp2
      refine ⟨by simp, .inl ⟨_, _, rfl, run_takeDeferred (w := W) HKK.out, ?_⟩⟩
      have hsw := hbw1.size
      have hDc : ∀ (j : Nat) (cur : Array Value) (t : TypeId), W.heap[j]? = some (.cells cur t (0, 0)) → (W.putObj D (.deferred none)).heap[j]? = W.heap[j]? := fun j cur t hj => World.putObj_heap_other (fun e => by rw [e, HKK.out] at hj; cases hj)
      refine ⟨.slice va ys.length vc, by simp [results, Try.results6, go_sem], ⟨_, rfl, ?_⟩, HBe.out.trans (belowK_b (w := w) (Nat.le_refl _) _ D _ _ (by omega) HKK.out rfl rfl)⟩
      rw [HY.out]
      refine OwnS.keep HO.out fun j hj => ?_
      obtain ⟨cur, h2⟩ := OwnS.type HO.out hj
      exact hDc j _ _ h2
    case stop =>
      subst hact
      rintro D c ys W hD ⟨k, hk, hS⟩ ⟨rfl, ⟨v, hL⟩, hmm⟩ hK
      have c5 := hL.box.cell
      have hys : walkL xs m = ys := by
        rw [walk_some xs (by omega), hS]
        rw [hS, List.length_take, List.length_reverse] at hmm
        rw [← hmm]
        congr 1
        omega
      obtain ⟨va, vc, ev, _⟩ := own_row hL.own
      subst ev
      have HO := hide_it hL.own
      have HBe := hide_it hL.bel
      have HY := hide_it hys
      have HKK := hide_it hK
      clear hL hys hS hmm hm hH1 hL1 hK
      gi_wp2
      refine ⟨by simp, .inl ⟨_, _, rfl, run_takeDeferred (w := W) HKK.out, ?_⟩⟩
      have hsw := hbw1.size
      have hDc : ∀ (j : Nat) (cur : Array Value) (t : TypeId), W.heap[j]? = some (.cells cur t (0, 0)) → (W.putObj D (.deferred none)).heap[j]? = W.heap[j]? := fun j cur t hj => World.putObj_heap_other (fun e => by rw [e, HKK.out] at hj; cases hj)
      refine ⟨.slice va ys.length vc, by simp [results, Try.results6, go_sem], ⟨_, rfl, ?_⟩, HBe.out.trans (belowK_b (w := w) (Nat.le_refl _) _ D _ _ (by omega) HKK.out rfl rfl)⟩
      rw [HY.out]
      refine OwnS.keep HO.out fun j hj => ?_
      obtain ⟨cur, h2⟩ := OwnS.type HO.out hj
      exact hDc j _ _ h2

end Go.Proofs.Ytncmnhomloanaab
