/- The walk of the law QueueWalk. -/
import Derived.Test.YtomfhbngpikjeaaQuWk1
namespace Go.Proofs.Ytomfhbngpikjeaa.queueWalk
open Go.RowKit Go.Shelf

attribute [local go_sem] Oper.semAt_some

/-- Appending a list to a slice of the call's own, inside a fence. -/
theorem wpListIn_append_rowS {F : Fence} {nF : Nat} (w : World) {ops : Array Oper} {rest : List Oper} {o : Oper} {act : Act} {Q : Exit → Act → World → Prop} (hgd : o.guard = none) (s x : Operand)
    (ho : o.op = .call { callee := .builtin .append, args := #[s, x], argTypes := #[22, 22] })
    (base : Nat) (v : Value) (xs : List ByteArray) (hs : act.eval s = v) (hown : OwS w base v xs) (a : Option Addr) (cap : Nat) (zs : List ByteArray) (hx : act.eval x = .slice a zs.length cap) (hr : RwS w a zs) (hnil : a = none → zs.length = 0 ∧ cap = 0)
    (hl : 16 * (xs.length + zs.length) ≤ 140737488355328) (hbase : base ≤ w.heap.size)
    (h : ∀ v' w', OwS w' base v' (xs ++ zs) → w.grownBy w' v.ownBlock → wpListIn F nF Try.prog ops Q rest (act.put o.dst v') w') :
    wpListIn F nF Try.prog ops Q (o :: rest) act w := by
  obtain ⟨i0, hi, hz0, hz1, hz2⟩ := info_parts infoQS
  have hrun : ∃ v' w', (Builtin.append_ #[22, 22] o.type #[v, .slice a zs.length cap]).run Try.prog w = .ok v' w' ∧ OwS w' base v' (xs ++ zs) ∧ w.grownBy w' v.ownBlock := by
    cases a with
    | none =>
      obtain ⟨h1, h2⟩ := hnil rfl
      have hzs : zs = [] := List.eq_nil_of_length_eq_zero h1
      subst hzs
      subst h2
      exact ⟨v, w, run_append_owned_none w base 22 o.type 9 i0 1 Try.underlying22 hi v xs.length (xs.map encS) hown, by rw [List.append_nil]; exact hown, ⟨rfl, rfl, rfl, Nat.le_refl _, fun _ _ _ => rfl⟩⟩
    | some ad =>
      have hnews : ∀ j u, (zs.map encS)[j]? = some u → w.cell? (ad.add j) = some u := fun j u hu => by
        have hj : j < zs.length := by have := (List.getElem?_eq_some_iff.1 hu).1; simpa using this
        obtain ⟨b, o, e, hlt, hc⟩ := hr.here hj
        cases e
        rw [Addr.add_lit, hc j hj]
        rw [List.getElem?_map, List.getElem?_eq_getElem hj] at hu
        exact hu
      have hone : ∀ u ∈ zs.map encS, u.oneCell' = true := fun u hu => by
        obtain ⟨z, _, rfl⟩ := List.mem_map.1 hu
        rfl
      obtain ⟨v4, w4, hrun, hown4, hgrow4, _, _⟩ := run_append_own_at (P := Try.prog) w base 22 o.type 9 i0 (.string .empty) 1 16 Try.underlying22 hi hz0 hz1 hz2 rfl (by omega) v xs.length (xs.map encS) hown ad zs.length cap (zs.map encS) (by simp) hnews hone (by unfold maxLen; omega) (by omega) hbase
      exact ⟨v4, w4, hrun, by unfold OwS; simpa using hown4, hgrow4⟩
  obtain ⟨v', w', hrun, h1, h2⟩ := hrun
  refine wpListIn_plain hgd fun K hK => ?_
  unfold Oper.wpIn
  refine ⟨by simp [Oper.about, ho, resolve, Target.leads, Sem.run_pure], ?_⟩
  rw [Oper.semAt_plain F _ _ (by rw [ho]; intro c hc'; cases hc')]
  simp [execOp, ho, resolve, invoke, builtin, hs, hx, hrun, Result.andThen]
  exact hK _ _ (h v' w' h1 h2)

/-- A round was left because what came was wrong. -/
def Bad (th : List ByteArray) (pre : List (Nat × ByteArray)) : Prop := ∃ pre' x, pre = pre' ++ [x] ∧ ¬ x = numS th pre'.length

set_option maxRecDepth 100000 in
set_option maxHeartbeats 4000000 in
theorem walk_out (ta : Option Addr) (tc : Nat) (th : List ByteArray) (at_ stop : Int) (a : Option Addr) (n cap : Nat) (w : World) (hth : 64 < th.length) :
    Calls Try.prog 7 #[.slice ta th.length tc, .int .i64 at_, .int .i64 stop, .slice a n cap] w fun e w' => e = .returned (.bool true) ∧ Below w.heap.size w w' := by
  have hti : (64 : Int) < (th.length : Int) := by omega
  have hpm := pm_made w (.slice ta th.length tc) (.slice a n cap) at_ stop
  obtain ⟨W, hW⟩ : ∃ W, W = (((((w.alloc (.cells #[.slice ta th.length tc] 22)).alloc (.cells #[.int .i64 at_] 3)).alloc (.cells #[.int .i64 stop] 3)).alloc (.cells #[.slice a n cap] 36)).alloc (.cells #[.bool false] 4)) := ⟨_, rfl⟩
  have hBW : Below w.heap.size w W := by rw [hW]; exact (((((Below.refl _ _).alloc (Nat.le_refl _) _).alloc (by simp) _).alloc (by simp; omega) _).alloc (by simp; omega) _).alloc (by simp; omega) _
  rw [← hW] at hpm
  have HPM := hide_it hpm
  have HBW := hide_it hBW
  clear hpm hBW
  go_enter Try.func7, Try.ntmps7
  go_wp2_with fail
  rw [← hW]
  refine (fixed_any W).mono ?_
  rintro e w1 ⟨rfl, hb1⟩
  have hpm1 := HPM.out.ck (CK.of_below hb1)
  obtain ⟨c0, _, _, _, c4, f4, _⟩ := hpm1.cells
  have HB1 := hide_it (HBW.out.trans (hb1.mono HBW.out.size))
  clear hb1 hpm1 hW
  go_wp2
  refine bodyPost_ret (v := .bool true) (by simp [results, Try.results7, go_sem, c4]) rfl ?_
  exact ⟨rfl, HB1.out.setCell (p := ⟨w.heap.size + 1 + 1 + 1 + 1, 0, none⟩) (by simp; omega) _⟩

set_option maxRecDepth 100000 in
set_option maxHeartbeats 4000000 in
theorem walk_in (ta : Option Addr) (tc : Nat) (th : List ByteArray) (at_ stop : Int) (a : Option Addr) (n cap : Nat) (A : Nat → Sp) (w : World) (hth : th.length ≤ 64) (hrt : RwS w ta th) (hnil : ta = none → th.length = 0 ∧ tc = 0) (hcame : CameT w a n A) :
    Calls Try.prog 7 #[.slice ta th.length tc, .int .i64 at_, .int .i64 stop, .slice a n cap] w fun e w' => e = .returned (.bool true) ∧ Below w.heap.size w w' := by
  have hti : ¬ (64 : Int) < (th.length : Int) := by omega
  have hrow := hcame.row
  have hnl := hcame.size
  clear hcame
  have hfn : ∀ (fn : Fn) (a b : Array Value) (w : World), (binOp .eql 53 (.func fn a b) .nilFunc).run Try.prog w = .ok (.bool false) w := fun _ _ _ _ => rfl
  obtain ⟨T, hT⟩ : ∃ T, T = th.length := ⟨_, rfl⟩
  rw [← hT] at hti hth ⊢
  have HT := hide_it hT
  have HRT := hide_it hrt
  have HNIL := hide_it hnil
  clear hT hrt hnil
  have hpm := pm_made w (.slice ta T tc) (.slice a n cap) at_ stop
  obtain ⟨W, hW⟩ : ∃ W, W = (((((w.alloc (.cells #[.slice ta T tc] 22)).alloc (.cells #[.int .i64 at_] 3)).alloc (.cells #[.int .i64 stop] 3)).alloc (.cells #[.slice a n cap] 36)).alloc (.cells #[.bool false] 4)) := ⟨_, rfl⟩
  have hBW : Below w.heap.size w W := by rw [hW]; exact (((((Below.refl _ _).alloc (Nat.le_refl _) _).alloc (by simp) _).alloc (by simp; omega) _).alloc (by simp; omega) _).alloc (by simp; omega) _
  rw [← hW] at hpm
  have HPM := hide_it hpm
  have HBW := hide_it hBW
  clear hpm hBW
  refine (callsIn_wide (n := 3)).1 ?_
  refine callsIn_of_wp_marks Try.func7 rfl trivial ?_ rfl
  simp only [Try.ntmps7, List.size_toArray, List.length_cons, List.length_nil, Nat.reduceAdd, Nat.reduceSub, Array.replicate_succ, Array.replicate_zero, List.push_toArray, List.append_toArray, List.nil_append, List.cons_append]
  gi_wp2_with fail
  rw [← hW]
  refine ⟨trivial, ?_⟩
  refine (callsIn_wide.2 (fixed_any W)).mono ?_
  rintro e w1 ⟨rfl, hb1⟩
  have hpm1 := HPM.out.ck (CK.of_below hb1)
  obtain ⟨c0, c1, c2, c3, c4, f4, s1⟩ := hpm1.cells
  have HB1 := hide_it (HBW.out.trans (hb1.mono HBW.out.size))
  have HPM1 := hide_it hpm1
  clear hb1 hpm1 hW HPM HBW
  gi_wp2_with fail
  refine ⟨trivial, ?_⟩
  refine (callsIn_wide.2 (newS_any 64 w1 (by omega))).mono ?_
  rintro e w2 ⟨rfl, hq2, hb2⟩
  obtain ⟨b, hb⟩ : ∃ b, b = w1.heap.size := ⟨_, rfl⟩
  rw [← hb] at hq2 ⊢
  have hbl := hq2.lt.1
  obtain ⟨tq, htq⟩ : ∃ tq, tq = w2.heap.size := ⟨_, rfl⟩
  obtain ⟨W3, hW3⟩ : ∃ W3, W3 = w2.alloc (.cells #[.pointer (some ⟨b, 0, none⟩)] 27) := ⟨_, rfl⟩
  have hb3 : Below w2.heap.size w2 W3 := by rw [hW3]; exact (Below.refl _ _).alloc (Nat.le_refl _) _
  have hq3 := hq2.below hb3
  have hpm3 := (HPM1.out.ck (CK.of_below hb2)).ck (CK.of_below hb3)
  have hbq3 : Boxed W3 tq 27 (.pointer (some ⟨b, 0, none⟩)) := by rw [hW3, htq]; exact Boxed.new _ _ _
  have zB := HB1.out.trans (hb2.mono HB1.out.size)
  have HB3 := hide_it (zB.trans (hb3.mono zB.size))
  have HQ3 := hide_it hq3
  have HPM3 := hide_it hpm3
  have HBQ3 := hide_it hbq3
  have hlow : w.heap.size + 5 ≤ b := by omega
  have htqb : b < tq := by omega
  have HW3 := hide_it hW3
  have HTQ := hide_it htq
  obtain ⟨d0, _, _, _, _, _, _⟩ := hpm3.cells
  rw [hW3] at d0
  clear c0 c1 c2 c3 c4 f4 hq2 hb2 hb3 hq3 hpm3 hbq3 zB hW3 htq HPM1 HB1 hb hbl s1
  gi_wp2_with fail
  rw [← HW3.out, ← HTQ.out]
  clear d0
  gi_loopw [39] (fun i wr => ∃ k : Nat, k ≤ T ∧ i = .int .i64 k ∧ Hid (∃ g, w.heap.size + 5 ≤ g ∧ g ≠ tq ∧ QuS wr b g 64 (th.take k)) ∧ Hid (Pm w.heap.size wr (.slice ta T tc) at_ stop (.slice a n cap) false) ∧ Hid (Boxed wr tq 27 (.pointer (some ⟨b, 0, none⟩))) ∧ Hid (Below w.heap.size w wr)) (fun i _ => T - (intOf i).toNat)
  case atStart => exact ⟨0, Nat.zero_le _, rfl, ⟨b, hlow, by omega, HQ3.out⟩, HPM3, HBQ3, HB3⟩
  case round =>
    obtain ⟨k, hk, rfl, HQ, HPM, HBQ, HB⟩ := hrel
    clear HQ3 HPM3 HBQ3 HB3 HW3 HTQ
    obtain ⟨g, hg5, hgt, hq⟩ := HQ.out
    have hbl := HB.out
    have hsz := hbl.size
    have cq := HBQ.out.cell
    have htl := HBQ.out.lt
    have hqlt := hq.lt
    clear HQ
    by_cases hlt : k < T
    · have hki : (k : Int) < (T : Int) := by omega
      have hw1 : IntKind.i64.wrap ((k : Int) + 1) = (k : Int) + 1 := i64_in (by omega) (by omega)
      have hkx : k < th.length := by have := HT.out; omega
      obtain ⟨rb, ro, hrb, hrl, r0⟩ := HRT.out.here hkx
      have s0 := (hbl.cell (p := ⟨rb, ro + k, none⟩) hrl).trans (r0 k hkx)
      obtain ⟨X, hX⟩ : ∃ X, X = th[k] := ⟨_, rfl⟩
      rw [← hX] at s0
      have hpu := pushS_any b g 64 (th.take k) X wr hq (by simp; omega)
      have hta : th.take k ++ [X] = th.take (k + 1) := by rw [hX]; exact (List.take_succ_eq_append_getElem hkx).symm
      rw [hta] at hpu
      subst hrb
      clear hX hta hq r0
      gi_wp2_with fail
      refine ⟨trivial, ?_⟩
      refine (callsIn_wide.2 hpu).mono ?_
      rintro e w5 ⟨rfl, ⟨g6, hg6, hq6⟩, ho6⟩
      have hpc := HPM.out.cells.2.2.2.2.2.2
      have HP5 := hide_it (HPM.out.keep (W' := w5) fun j j1 j2 => ho6.block j (by omega) (by omega) (by omega))
      have HBQ5 := hide_it (show Boxed w5 tq 27 (.pointer (some ⟨b, 0, none⟩)) from (ho6.block tq htl (by omega) (by omega)).trans HBQ.out)
      have HB5 := hide_it (hbl.trans (ho6.below (B := w.heap.size) (by omega) (by omega) hsz))
      have HQ6 := hide_it hq6
      have HG6 := hide_it hg6
      clear hpu hq6 ho6 hg6
      gi_wp2
      go_roundw
      case rel =>
        refine ⟨k + 1, by omega, by go_num, ⟨g6, ?_, ?_, HQ6.out⟩, HP5, HBQ5, HB5⟩
        · rcases HG6.out with e | e <;> omega
        · rcases HG6.out with e | e <;> omega
      case measure => simp [intOf]; omega
    · have hkT : k = T := by omega
      have hq2 : QuS wr b g 64 th := by
        have e : th.take k = th := List.take_of_length_le (by have := HT.out; omega)
        rw [e] at hq
        exact hq
      have HQQ := hide_it hq2
      have hrn := rnew_any 64 wr
      have hn0 : newE 64 = 0 := by decide
      rw [if_pos hn0, hn0] at hrn
      clear hq hq2 hkT hn0
      gi_wp2_with fail
      refine ⟨trivial, ?_⟩
      refine (callsIn_wide.2 hrn).mono ?_
      rintro e w4 ⟨rfl, hb4⟩
      have hpm4 := HPM.out.ck (CK.of_below hb4)
      obtain ⟨d0, _, _, _, _, _, sB⟩ := hpm4.cells
      obtain ⟨c, hc⟩ : ∃ c, c = w4.heap.size := ⟨_, rfl⟩
      obtain ⟨W5, hW5⟩ : ∃ W5, W5 = (w4.alloc (.cells #[.int .i64 64, .slice none 0 0] 24)).alloc (.cells #[] 9) := ⟨_, rfl⟩
      have hb5 : Below w4.heap.size w4 W5 := by rw [hW5]; exact ((Below.refl _ _).alloc (Nat.le_refl _) _).alloc (by simp) _
      have how5 : OwS W5 (w4.heap.size + 1) (.slice (some ⟨w4.heap.size + 1, 0, none⟩) 0 0) [] := by
        have := OwS.empty (w4.alloc (.cells #[.int .i64 64, .slice none 0 0] 24))
        rw [← hW5, World.size_alloc] at this
        exact this
      have hcb5 : W5.heap[w4.heap.size]? = some (.cells #[.int .i64 64, .slice none 0 0] 24 (0, 0)) := by
        rw [hW5, Below.heap_alloc _ _ _ (by simp)]; exact heap_alloc_new _ _
      have hz5 : W5.heap.size = w4.heap.size + 1 + 1 := by rw [hW5]; simp
      have zB4 := hbl.trans (hb4.mono hsz)
      have zB5 := zB4.trans (hb5.mono zB4.size)
      have hrt5 := HRT.out.below (show Below w.heap.size w W5 from zB5)
      have d5 := (hb5.cell (p := ⟨w.heap.size, 0, none⟩) (by simp; omega)).trans d0
      rw [hW5] at d5
      have HO5 := hide_it how5
      have HC5 := hide_it hcb5
      have HRT5 := hide_it hrt5
      have HQ5 := hide_it ((HQQ.out.below hb4).below hb5)
      have HP5 := hide_it (hpm4.ck (CK.of_below hb5))
      have HBQ5 := hide_it (show Boxed W5 tq 27 (.pointer (some ⟨b, 0, none⟩)) from CK.of_below hb5 _ _ _ _ (CK.of_below hb4 _ _ _ _ HBQ.out))
      have HB5 := hide_it zB5
      have HW5 := hide_it hW5
      have s45 := hb4.size
      clear hrn hb4 hpm4 d0 hb5 how5 hcb5 hrt5 zB4 zB5 hW5 HPM HBQ HQQ
      gi_wp2_with (gi_at_builtin; rw [← HW5.out]; refine wpListIn_append_rowS W5 rfl _ _ rfl (w4.heap.size + 1) _ [] rfl HO5.out ta tc th (by rw [← HT.out]; rfl) HRT5.out HNIL.out (by rw [← HT.out]; simp; omega) (by omega) ?_; intro v6 w6 hown6 hg6; obtain ⟨a6, c6, hv6, _⟩ := hown6.row; rw [List.nil_append, ← HT.out] at hv6; subst hv6; rw [List.nil_append] at hown6; have hc6 := grown_kept hg6 HC5.out (fun e => by have e2 : some (w4.heap.size + 1) = some w4.heap.size := e; have := Option.some.inj e2; omega); have e0 := cell_of_row _ _ 0 _ _ _ hc6; have e1 := cell_of_row _ _ 1 _ _ _ hc6; have f1 := frozen_of_row _ _ 1 _ _ hc6; simp only [List.getElem?_toArray, List.getElem?_cons_zero, List.getElem?_cons_succ] at e0 e1; have hbq6 : Boxed w6 tq 27 (.pointer (some ⟨b, 0, none⟩)) := grown_kept hg6 HBQ5.out (fun e => by have e2 : some (w4.heap.size + 1) = some tq := e; have := Option.some.inj e2; omega); have cq6 := hbq6.cell; have hs6 := hg6.size; have HO6 := hide_it hown6; have HG6 := hide_it (show W5.grownBy w6 (some (w4.heap.size + 1)) from hg6); have HC6 := hide_it hc6; have HBQ6 := hide_it hbq6; have hcq : ¬ w4.heap.size = tq := (by omega); clear hown6 hg6 hc6 hbq6 d5)
      obtain ⟨c, hc⟩ : ∃ c, c = w4.heap.size := ⟨_, rfl⟩
      obtain ⟨W7, hW7⟩ : ∃ W7, W7 = w6.setCell ⟨w4.heap.size, 1, none⟩ (.slice a6 T c6) := ⟨_, rfl⟩
      rw [← hW7]
      have hz7 : W7.heap.size = w6.heap.size := by rw [hW7]; simp
      have hk7 : ∀ k, k < W5.heap.size → k ≠ w4.heap.size + 1 → k ≠ w4.heap.size → W7.heap[k]? = W5.heap[k]? := fun k k1 k2 k3 => by
        rw [hW7, Below.heap_setCell _ _ _ _ (by simpa using k3)]
        exact HG6.out.block k k1 (fun e => k2 (Option.some.inj e))
      obtain ⟨W0, hW0⟩ : ∃ W0, W0 = (W7.alloc (.cells #[.pointer (some ⟨b, 0, none⟩)] 27)).alloc (.cells #[.int .i64 0] 3) := ⟨_, rfl⟩
      have hb0 : Below W7.heap.size W7 W0 := by rw [hW0]; exact ((Below.refl _ _).alloc (Nat.le_refl _) _).alloc (by simp) _
      have hQ5l := HQ5.out.lt
      have hox : ∀ j, (Value.slice a6 T c6).ownBlock = some j → j ≠ w4.heap.size := HO6.out.not_box HC6.out
      have hst : St w W0 (.slice ta T tc) at_ stop (.slice a n cap) b g c tq W7.heap.size (W7.heap.size + 1) 0 (.slice a6 T c6) th := by
        have hck := CK.of_below hb0
        have z5 := HB5.out.size
        have hq7 : QuS W7 b g 64 th := HQ5.out.keep (hk7 b hQ5l.1 (by omega) (by omega)) (hk7 g hQ5l.2 (by omega) (by omega))
        have hbox7 : W7.heap[c]? = some (.cells #[.int .i64 64, .slice a6 T c6] 24 (0, 0)) := by
          rw [hW7, hc, heap_setCell_same _ w4.heap.size 1 _ _ _ HC6.out]; simp
        have how7 : OwS W7 w.heap.size (.slice a6 T c6) th := OwS.mono (HO6.out.heap fun j hj => by
          rw [hW7, Below.heap_setCell _ _ _ _ (by simpa using hox j hj)]) (by omega)
        have hoff : ∀ j, (Value.slice a6 T c6).ownBlock = some j → w4.heap.size + 1 ≤ j := fun j hj => HO6.out.ge hj
        refine ⟨⟨⟨hq7.ck hck, how7.ck hck, fun j hj => ?_⟩, hck _ _ _ _ hbox7, by omega, by omega, by omega, by omega, by omega⟩, (HP5.out.keep fun k k1 k2 => hk7 k (by omega) (by omega) (by omega)).ck hck, hck _ _ _ _ ((hk7 tq (by omega) (by omega) (by omega)).trans HBQ5.out), ?_, ?_, ⟨hlow, hg5, by omega, by omega⟩, ?_, ?_⟩
        · have := hoff j hj; exact ⟨by omega, by omega⟩
        · rw [hW0]; exact (Boxed.new _ _ _).alloc _
        · rw [hW0]
          have := Boxed.new (W7.alloc (.cells #[.pointer (some ⟨b, 0, none⟩)] 27)) 3 (.int .i64 0)
          simpa using this
        · refine ⟨by omega, by omega, by omega, by omega, by omega, by omega, by omega, by omega, by omega, by omega, by omega⟩
        · have y6 := (HB5.out.grown HG6.out z5 (fun j e => by have := Option.some.inj e; omega)).setCell (p := ⟨w4.heap.size, 1, none⟩) (by simp; omega) (.slice a6 T c6)
          rw [← hW7] at y6
          exact y6.trans (hb0.mono y6.size)
      have HST := hide_it hst
      have HW0 := hide_it hW0
      have HC := hide_it hc
      have hz0 : W0.heap.size = W7.heap.size + 1 + 1 := by rw [hW0]; simp
      clear hst hW0 hc hox hQ5l hb0 hk7 hW7 HO6 HG6 HC6 HBQ6 HBQ5 HP5 HQ5 HRT5 HC5 HO5 HW5 e0 e1 f1 cq6
      refine ⟨trivial, ?_⟩
      refine (callsIn_wide.2 (allS_any (some ⟨b, 0, none⟩) W7)).mono ?_
      rintro e w7 ⟨rfl, rfl⟩
      gi_wp2_with fail
      rw [← HW0.out]
      rw [hz7] at HST hz0
      obtain ⟨ba, hba⟩ : ∃ ba, ba = w6.heap.size := ⟨_, rfl⟩
      rw [← hba] at HST hz0 ⊢
      rw [← HC.out]
      clear HW0 HC hba hz7 hs6 hz5 s45 sB htl hqlt HB5 HB hbl hsz cq hcq
      obtain ⟨tn, htn⟩ : ∃ tn, tn = ba + 1 := ⟨_, rfl⟩
      rw [← htn] at HST ⊢
      have hD1 : b < W0.heap.size := HST.out.pair.both.qu.lt.1
      have hD2 : c < W0.heap.size := (Array.getElem?_eq_some_iff.1 HST.out.pair.box).1
      have hD3 : tn < W0.heap.size := by omega
      have hD4 : ba < W0.heap.size := by omega
      clear htn hz0
      generalize hact : ({ tmps := _, defers := [] } : Act) = act0
      refine wpIn_rangeFunc_ownG (F := Fence.wide) rfl (by omega) (gf := 33) (lb := #[.pointer (some ⟨ba, 0, none⟩)]) (by rw [← hact]; rfl) trivial (enters_of Try.func33 (by kernel_rfl) rfl)
        (allS_stops _ ba g 64 (some ⟨b, 0, none⟩) ⟨b, 3, none⟩ th W0 (.inr ⟨b, rfl, HST.out.pair.both.qu⟩) (by omega) HST.out.q2.cell hD4 hD1 (fun k hk => by rcases HST.out.pair.both.qu.own with ⟨e, _⟩ | ⟨e, _⟩; rw [e] at hk; cases hk; rw [e] at hk; cases hk; exact HST.out.pair.both.qu.lt.2)) keepS_t (keepS_b hD1) (Below.refl _ _) (fun _ => rfl)
        (fun pre W => (∃ g v ys, St w W (.slice ta T tc) at_ stop (.slice a n cap) b g c tq ba tn pre.length v ys) ∧ ∀ i : Nat, i < pre.length → (i : Int) ≠ stop)
        (fun c' pre W => (c' = .ret ∧ Bad th pre) ∨ (c' = .exit 2 ∧ (∃ g v ys, St w W (.slice ta T tc) at_ stop (.slice a n cap) b g c tq ba tn pre.length v ys) ∧ (pre.length : Int) = stop + 1 ∧ 0 ≤ stop))
        ?hI ?hIx ⟨⟨_, _, _, HST.out⟩, fun i hi => by simp at hi⟩
        (fun x => { tmps := (((act0.tmps.setIfInBounds 61 (.int .i64 (x.1 : Int))).setIfInBounds 62 (.string x.2)).setIfInBounds 17 (.int .i64 (x.1 : Int))).setIfInBounds 18 (.string x.2), defers := [] }) ?assign ?body ?done ?stop
      case hI =>
        rintro s X Y row ⟨⟨g, v, ys, hs⟩, hi⟩ hg hr
        refine ⟨⟨g, v, ys, hs.ck (CK.of_grown hg fun r e => (hr r e).2) (hs.below.grown hg hs.below.size (fun k e => ?_))⟩, hi⟩
        have := (hr k e).1
        have := HST.out.below.size
        omega
      case hIx =>
        rintro c' s X Y row (h | ⟨hc', ⟨g, v, ys, hs⟩, hi⟩) hg hr
        · exact .inl h
        · refine .inr ⟨hc', ⟨g, v, ys, hs.ck (CK.of_grown hg fun r e => (hr r e).2) (hs.below.grown hg hs.below.size (fun k e => ?_))⟩, hi⟩
          have := (hr k e).1
          have := HST.out.below.size
          omega
      case assign =>
        subst hact
        intro l x W K hK
        gi_wp2
        simp only [List.setIfInBounds_toArray, List.set_cons_zero, List.set_cons_succ] at hK
        exact hK
      case body =>
        rintro l pre ⟨i, s⟩ W ⟨⟨g, v, ys, hs⟩, hi⟩ hlt
        subst hact
        simp only [List.setIfInBounds_toArray, List.set_cons_zero, List.set_cons_succ]
        obtain ⟨c0, c1, c2, c3, c4, f4, sB⟩ := hs.pm.cells
        have cn := hs.nn.cell
        have fn' := hs.nn.frozen
        have cq := hs.q1.cell
        have hbl := hs.below
        have hsz := hbl.size
        have hlw := hs.low
        have hne1 : ¬ tn = w.heap.size + 1 + 1 := by omega
        have hne2 : ¬ w.heap.size + 1 + 1 = tn := by omega
        obtain ⟨P, hP⟩ : ∃ P, P = pre.length := ⟨_, rfl⟩
        rw [← hP] at cn hlt
        have hPT : P < T := by have := HT.out; omega
        obtain ⟨rb, ro, hrb, hrl, r0⟩ := HRT.out.here hlt
        have s0 := (hbl.cell (p := ⟨rb, ro + P, none⟩) hrl).trans (r0 P hlt)
        obtain ⟨X, hX⟩ : ∃ X, X = th[P] := ⟨_, rfl⟩
        rw [← hX] at s0
        subst hrb
        have hnum : numS th P = (P, X) := by simp [numS, hlt, hX]
        have HNUM := hide_it hnum
        have HI := hide_it hi
        have HSS := hide_it hs
        have HP := hide_it hP
        have hPTi : (P : Int) < (T : Int) := by omega
        have hPTn : ¬ (T : Int) ≤ (P : Int) := by omega
        have hPT2 : ¬ T ≤ P := by omega
        clear hi hnum hX r0 hP
        by_cases hi : i = P
        · subst hi
          by_cases hx : s = X
          · subst hx
            have hxx : (s.toList == s.toList) = true := by rw [text_eq]; simp
            by_cases hat : (i : Int) = at_
            · have hatb : ((i : Int) == at_) = true := by simpa using hat
              clear hs hat
              gi_wp2_with fail
              gi_loopw [85] (fun idx wr => ∃ k : Nat, k ≤ n ∧ idx = .int .i64 k ∧ Hid (∃ g v ys, St w wr (.slice (some ⟨rb, ro, none⟩) T tc) at_ stop (.slice a n cap) b g c tq ba tn i v ys) ∧ Hid (Kd W0.heap.size b W wr)) (fun idx _ => n - (intOf idx).toNat)
              case atStart => exact ⟨0, Nat.zero_le _, rfl, ⟨_, _, _, by rw [HP.out]; exact HSS.out⟩, Kd.refl _ _ _⟩
              case round =>
                obtain ⟨m, hm, rfl, HS2, HK2⟩ := hrel
                obtain ⟨g2, v2, ys2, hs2⟩ := HS2.out
                clear HS2
                obtain ⟨b0, b1, b2, b3, b4, b5, b6⟩ := hs2.pm.cells
                have cn2 := hs2.nn.cell
                have fn2 := hs2.nn.frozen
                have cq2 := hs2.q1.cell
                have hbl2 := hs2.below
                have HSS2 := hide_it hs2
                by_cases hlt3 : m < n
                · have hmi : (m : Int) < (n : Int) := by omega
                  have hw1 : IntKind.i64.wrap ((m : Int) + 1) = (m : Int) + 1 := i64_in (by omega) (by omega)
                  obtain ⟨rb2, ro2, hra, hrl2, r0, r1⟩ := hrow.here hlt3
                  have y0 := (hbl2.cell (p := ⟨rb2, ro2 + m * 2, none⟩) hrl2).trans r0
                  have y1 := (hbl2.cell (p := ⟨rb2, ro2 + m * 2 + 1, none⟩) hrl2).trans r1
                  obtain ⟨Kk, hKk⟩ : ∃ Kk, Kk = (A m).k := ⟨_, rfl⟩
                  obtain ⟨Sk, hSk⟩ : ∃ Sk, Sk = (A m).s := ⟨_, rfl⟩
                  rw [← hKk] at y0
                  rw [← hSk] at y1
                  subst hra
                  obtain ⟨Wr, hWr⟩ : ∃ Wr, Wr = wr.alloc (.cells #[.int .i64 Kk, .string Sk] 38) := ⟨_, rfl⟩
                  have hbr : Below wr.heap.size wr Wr := by rw [hWr]; exact (Below.refl _ _).alloc (Nat.le_refl _) _
                  have hsr := hs2.ck (CK.of_below hbr) (hbl2.trans (hbr.mono hbl2.size))
                  have hkr : Kd W0.heap.size b wr Wr := by rw [hWr]; exact Kd.alloc _ _ hs2.pair.both.qu.lt.1
                  obtain ⟨va, vc, hv, _⟩ := hsr.pair.both.shape
                  obtain ⟨L, hL⟩ : ∃ L, L = ys2.length := ⟨_, rfl⟩
                  rw [← hL] at hv
                  subst hv
                  have hdo := does_any b g2 64 w.heap.size (.slice va L vc) ys2 Kk Sk Wr hsr.pair.both hsr.below.size
                  obtain ⟨x0, x1, _, _⟩ := hsr.pair.cells
                  rw [show ((64 : Nat) : Int) = 64 from rfl] at x0 hdo
                  rw [hWr] at x0 x1
                  have cq3 := hsr.q1.cell
                  rw [hWr] at cq3
                  obtain ⟨zs, hzs⟩ : ∃ zs, zs = nxt 64 ys2 Kk Sk := ⟨_, rfl⟩
                  rw [← hzs] at hdo
                  have HSR := hide_it hsr
                  have HKR := hide_it (HK2.out.trans hkr)
                  have HWr := hide_it hWr
                  clear hKk hSk r0 r1 hs2 hbr hsr hkr hL hWr hzs hbl2 HSS2 HK2
                  gi_wp2_with fail
                  rw [← HWr.out]
                  refine ⟨trivial, ?_⟩
                  refine (CallsIn.inRound l (callsIn_wide.2 hdo)).mono ?_
                  rintro e w5 ⟨v5, g5, rfl, hg5, hb5, ho5, _⟩
                  obtain ⟨a5, c5, hv5, _⟩ := hb5.shape
                  obtain ⟨Z, hZ⟩ : ∃ Z, Z = zs.length := ⟨_, rfl⟩
                  rw [← hZ] at hv5
                  subst hv5
                  have hnx := fun o => HSR.out.next (D := W0.heap.size) hD1 hD2 hg5 hb5 ho5 o
                  have hbox := (ho5.block c (Array.getElem?_eq_some_iff.1 HSR.out.pair.box).1 HSR.out.pair.cb HSR.out.pair.cg).trans HSR.out.pair.box
                  have t0 := cell_of_row _ _ 0 _ _ _ hbox
                  have t1 := cell_of_row _ _ 1 _ _ _ hbox
                  have t2 := frozen_of_row _ _ 0 _ _ hbox
                  have t3 := frozen_of_row _ _ 1 _ _ hbox
                  simp only [List.getElem?_toArray, List.getElem?_cons_zero, List.getElem?_cons_succ] at t0 t1
                  have hc5 : c < w5.heap.size := (Array.getElem?_eq_some_iff.1 hbox).1
                  have hcne : ¬ c = w5.heap.size := by omega
                  have HNX := hide_it hnx
                  clear hdo hnx hb5 ho5 hg5 hZ hbox x0 x1 y0 y1
                  gi_wp2
                  go_roundw
                  case rel =>
                    obtain ⟨z1, z2⟩ := HNX.out (.cells #[.int .i64 64, .slice a5 Z c5] 24)
                    exact ⟨m + 1, by omega, by go_num, ⟨_, _, _, z1⟩, HKR.out.trans z2⟩
                  case measure => simp [intOf]; omega
                · clear hs2
                  by_cases hst : (i : Int) = stop
                  · have hstb : ((i : Int) == stop) = true := by simpa using hst
                    have HST2 := hide_it hst
                    clear hst
                    gi_wp2
                    have hst := HST2.out
                    obtain ⟨z1, z2⟩ := HSS2.out.count hD3 (i + 1)
                    have e : (pre ++ [(i, s)]).length = i + 1 := by simp [← HP.out]
                    simp only [Int.natCast_add, Int.natCast_one] at z1 z2
                    rw [← e] at z1
                    exact ⟨(HK2.out.trans z2).1, .inr ⟨rfl, ⟨_, _, _, z1⟩, by rw [e]; omega, by omega⟩⟩
                  · have hstb : ((i : Int) == stop) = false := by simpa using hst
                    have HST2 := hide_it hst
                    clear hst
                    gi_wp2
                    have hst := HST2.out
                    obtain ⟨z1, z2⟩ := HSS2.out.count hD3 (i + 1)
                    have e : (pre ++ [(i, s)]).length = i + 1 := by simp [← HP.out]
                    simp only [Int.natCast_add, Int.natCast_one] at z1 z2
                    rw [← e] at z1
                    refine ⟨(HK2.out.trans z2).1, (HK2.out.trans z2).2, ⟨_, _, _, z1⟩, fun j hj => ?_⟩
                    rw [e] at hj
                    by_cases ej : j = i
                    · rw [ej]; exact hst
                    · exact HI.out j (by rw [← HP.out]; omega)
            · have hatb : ((i : Int) == at_) = false := by simpa using hat
              clear hs hat
              by_cases hst : (i : Int) = stop
              · have hstb : ((i : Int) == stop) = true := by simpa using hst
                have HST2 := hide_it hst
                clear hst
                gi_wp2
                have hst := HST2.out
                obtain ⟨z1, z2⟩ := (show St w W (.slice (some ⟨rb, ro, none⟩) T tc) at_ stop (.slice a n cap) b g c tq ba tn i v ys by rw [HP.out]; exact HSS.out).count hD3 (i + 1)
                have e : (pre ++ [(i, s)]).length = i + 1 := by simp [← HP.out]
                simp only [Int.natCast_add, Int.natCast_one] at z1 z2
                rw [← e] at z1
                exact ⟨z2.1, .inr ⟨rfl, ⟨_, _, _, z1⟩, by rw [e]; omega, by omega⟩⟩
              · have hstb : ((i : Int) == stop) = false := by simpa using hst
                have HST2 := hide_it hst
                clear hst
                gi_wp2
                have hst := HST2.out
                obtain ⟨z1, z2⟩ := (show St w W (.slice (some ⟨rb, ro, none⟩) T tc) at_ stop (.slice a n cap) b g c tq ba tn i v ys by rw [HP.out]; exact HSS.out).count hD3 (i + 1)
                have e : (pre ++ [(i, s)]).length = i + 1 := by simp [← HP.out]
                simp only [Int.natCast_add, Int.natCast_one] at z1 z2
                rw [← e] at z1
                refine ⟨z2.1, z2.2, ⟨_, _, _, z1⟩, fun j hj => ?_⟩
                rw [e] at hj
                by_cases ej : j = i
                · rw [ej]; exact hst
                · exact HI.out j (by rw [← HP.out]; omega)
          · have hxx : (s.toList == X.toList) = false := by rw [text_eq]; simpa using hx
            clear hs
            gi_wp2
            refine ⟨(KeepsOthers.setCell _ _ _).from _, .inl ⟨rfl, pre, (i, s), rfl, fun e => ?_⟩⟩
            rw [← HP.out, HNUM.out] at e
            exact hx (by cases e; rfl)
        · have hii : ¬ (i : Int) = (P : Int) := by omega
          clear hs
          gi_wp2
          refine ⟨(KeepsOthers.setCell _ _ _).from _, .inl ⟨rfl, pre, (i, s), rfl, fun e => ?_⟩⟩
          rw [← HP.out, HNUM.out] at e
          exact hi (by cases e; rfl)
      case done =>
        rintro D ys W hD rfl ⟨⟨g, v, zs, hs⟩, hi⟩ hK
        rw [upTo_length] at hs hi
        obtain ⟨c0, c1, c2, c3, c4, f4, sB⟩ := hs.pm.cells
        have cn := hs.nn.cell
        rw [← HT.out] at cn hi
        have hstop : stop < 0 ∨ (T : Int) ≤ stop := by
          by_cases h0 : stop < 0
          · exact .inl h0
          · right
            apply Int.not_lt.1
            intro h1
            exact hi stop.toNat (by omega) (by omega)
        clear hi
        rcases hstop with hs1 | hs1
        · have hs2 : ¬ (0 : Int) ≤ stop := by omega
          obtain ⟨tl, htl⟩ : ∃ tl, tl = W.heap.size := ⟨_, rfl⟩
          obtain ⟨W', hW'⟩ : ∃ W', W' = W.alloc (.cells #[.slice none 0 0] 22) := ⟨_, rfl⟩
          have hzW : W'.heap.size = tl + 1 := by rw [hW', htl]; simp
          have hb1 : Below W.heap.size W W' := by rw [hW']; exact (Below.refl _ _).alloc (Nat.le_refl _) _
          have hbx : Boxed W' tl 22 (.slice none 0 0) := by rw [hW', htl]; exact Boxed.new _ _ _
          have hs' := hs.ck (CK.of_below hb1) (hs.below.trans (hb1.mono hs.below.size))
          have hDl : D < tl := by rw [htl]; exact (Array.getElem?_eq_some_iff.1 hK).1
          have hK1 : W'.heap[D]? = some (.deferred (some [])) := (hb1.block D (by omega)).trans hK
          have HS' := hide_it hs'
          have HK1 := hide_it hK1
          have HBX := hide_it hbx
          have HW' := hide_it hW'
          have HTL := hide_it htl
          have hbal : ba < tl := by rw [htl]; exact hs.q2.lt
          have hqlt := hs.pair.both.qu.lt
          have hcl : c < tl := by rw [htl]; exact (Array.getElem?_eq_some_iff.1 hs.pair.box).1
          rw [← htl] at hqlt
          have hlow5 := hs.low
          have hp4 : w.heap.size + 5 ≤ tl := by rw [htl]; exact hs.pm.cells.2.2.2.2.2.2
          have hvin : ∀ j, v.ownBlock = some j → j < tl := by rw [htl]; exact hs.pair.both.ow.inside
          have HVIN := hide_it hvin
          clear hvin
          clear hs hs' hb1 hbx hK hK1 hW' htl
          subst hact
          gi_wp2_with fail
          rw [← HW'.out, ← HTL.out]
          clear HW' HTL
          generalize hact2 : ({ tmps := _, defers := _ } : Act) = act2
          refine wpIn_rangeFunc_ownG (F := Fence.wide) rfl (by omega) (gf := 33) (lb := #[.pointer (some ⟨ba, 0, none⟩)]) (by rw [← hact2]; rfl) trivial (enters_of Try.func33 (by kernel_rfl) rfl)
            (allS_stops _ ba g 64 (some ⟨b, 0, none⟩) ⟨tl, 0, none⟩ zs W' (.inr ⟨b, rfl, HS'.out.pair.both.qu⟩) (by omega) HS'.out.q2.cell (by omega) (by simp; omega) (fun k hk => by simp [ownAt, HBX.out.cell, Value.ownBlock] at hk)) keepS_t (keepS_b (by simp; omega)) (Below.refl _ _) (fun _ => rfl)
            (fun pre W => (∃ v, Boxed W tl 22 v ∧ OwS W tl v (pre.map Prod.snd) ∧ True) ∧ Below tl W' W)
            (fun _ _ _ => False)
            (OwnFrom.and (Own.from (holdsRow_own tl tl 22 9 1 (fun pre : List (Nat × ByteArray) => (pre.map Prod.snd).length) (fun pre => (pre.map Prod.snd).map encS) (fun _ _ => True)) _) (ownFrom_below (by omega) (by omega)))
            (fun _ _ _ _ _ hs _ _ => hs)
            ⟨⟨_, HBX.out, World.ownsRow_nil _ _ _ _, trivial⟩, Below.refl _ _⟩
            (fun x => { tmps := ((act2.tmps.setIfInBounds 136 (.int .i64 (x.1 : Int))).setIfInBounds 137 (.string x.2)).setIfInBounds 25 (.string x.2), defers := [] }) ?assign2 ?body2 ?done2 ?stop2
          case assign2 =>
            subst hact2
            intro l x W K hK
            gi_wp2
            simp only [List.setIfInBounds_toArray, List.set_cons_zero, List.set_cons_succ] at hK
            exact hK
          case body2 =>
            rintro l pre ⟨y, z⟩ Wb ⟨⟨v, hv, hrow2, _⟩, hB⟩ hlt
            subst hact2
            simp only [List.setIfInBounds_toArray, List.set_cons_zero, List.set_cons_succ]
            have hc := hv.cell
            have hsB := hB.size
            obtain ⟨a2, cap2, rfl, _, _, _⟩ := hrow2.row
            have hla : (pre.map Prod.snd).length = pre.length := by simp
            have hr2 : Wb.ownsRow tl 9 1 (.slice a2 pre.length cap2) pre.length ((pre.map Prod.snd).map encS) := by rw [← hla]; exact hrow2
            rw [hla] at hc hv
            have HV := hide_it hv
            have HR := hide_it hr2
            have HBB := hide_it hB
            have hpl : pre.length < 65536 := by have := HS'.out.pair.both.qu.len; omega
            clear hrow2 hv hr2 hB hla
            obtain ⟨i0, hi0, hz0, hz1, hz2⟩ := info_parts infoQS
            gi_wp2_with (gi_at_builtin; refine wpListIn_append_own_at _ rfl _ _ 22 rfl tl 9 i0 (.string .empty) 1 16 Try.underlying22 hi0 hz0 hz1 hz2 rfl (by decide) _ _ _ rfl (HR.out.alloc _) ⟨Wb.heap.size, 0, none⟩ 1 1 [.string z] rfl rfl (cell_one_new _ _ _) (by simp [Value.oneCell']) (by unfold maxLen; omega) (by omega) (by simp; omega) ?_; intro v' w1 hown' hgrow _ hat; obtain ⟨g', cap', rfl⟩ := ownsRow_succ hown'; obtain ⟨hv1, hv2, hr3, hk2, hb2⟩ := HV.out.appended (by decide) HR.out (by omega) (Nat.le_refl _) hown' hgrow; have hc1 := hv1.cell; have hf1 := hv1.frozen; have HA := hide_it hat; have HG := hide_it hgrow; have HV2 := hide_it hv2; have HR3 := hide_it hr3; have HK2 := hide_it hk2; have HB2 := hide_it hb2; clear hat hgrow hown' hv1 hv2 hr3 hk2 hb2)
            refine ⟨HK2.out.from _, keepS_appended (by omega) HV.out HV2.out HG.out HA.out, ⟨_, HV2.out, ?_⟩, HBB.out.trans HB2.out⟩
            have := HR3.out
            unfold OwS
            simpa [encS] using this
          case done2 =>
            rintro D2 ys2 W2 hD2' rfl ⟨⟨u, hv, hrow2, _⟩, hB⟩ hK2
            rw [numS_all] at hrow2
            subst hact2
            obtain ⟨a2, cap2, hu, hr2, _, _⟩ := hrow2.row
            have how2 := HS'.out.pair.both.ow.heap (w' := W2) fun j hj => hB.block j (HVIN.out j hj)
            obtain ⟨va, vc, hvv, hrv, _, _⟩ := how2.row
            have heq : Calls Try.prog 17 #[.slice a2 zs.length cap2, .slice va zs.length vc] W2 fun e w' => e = .returned (.bool true) ∧ Below W2.heap.size W2 w' :=
              (equalS_any a2 va cap2 vc zs zs W2 hr2 hrv (by have := HS'.out.pair.both.qu.len; omega)).mono fun e w' ⟨h1, h2⟩ => ⟨by rw [h1]; simp, h2⟩
            have p1 := (hB.cell (p := ⟨c, 1, none⟩) hcl).trans HS'.out.pair.cells.2.1
            have b8 := (hB.block (w.heap.size + 1 + 1 + 1 + 1) (by omega)).trans HS'.out.pm.p4
            have hKD := (hB.block D hDl).trans HK1.out
            have cl := hv.cell
            rw [hvv] at p1
            subst hu
            have hBW : Below w.heap.size w W2 := HS'.out.below.trans (hB.mono (by omega))
            have hD2l : D2 < W2.heap.size := (Array.getElem?_eq_some_iff.1 hK2).1
            have HBW := hide_it hBW
            have HB8 := hide_it b8
            have HKD := hide_it hKD
            have HK2 := hide_it hK2
            clear hv hrow2 hr2 how2 hrv hB b8 hKD hK2 hBW
            gi_wp2_with fail
            refine ⟨trivial, ?_⟩
            refine (callsIn_wide.2 heq).mono ?_
            rintro e w8 ⟨rfl, hb8⟩
            have hbx8 := (hb8.block (w.heap.size + 1 + 1 + 1 + 1) (by have := (Array.getElem?_eq_some_iff.1 HB8.out).1; omega)).trans HB8.out
            have x0 := cell_of_row _ _ 0 _ _ _ hbx8
            have x1 := frozen_of_row _ _ 0 _ _ hbx8
            simp only [List.getElem?_toArray, List.getElem?_cons_zero] at x0
            have HK8 := hide_it ((hb8.block D2 hD2l).trans HK2.out)
            have HD8 := hide_it ((hb8.block D (by have := (Array.getElem?_eq_some_iff.1 HKD.out).1; omega)).trans HKD.out)
            have HX8 := hide_it hbx8
            have HB9 := hide_it (HBW.out.trans (hb8.mono HBW.out.size))
            clear heq hb8 hbx8 cl p1
            gi_wp2
            have hne : D ≠ D2 := by omega
            have hka := (KeepsOthers.setCell w8 ⟨w.heap.size + 1 + 1 + 1 + 1, 0, none⟩ (.bool true)).same D2 _ HK8.out rfl
            have hkb0 := (KeepsOthers.setCell w8 ⟨w.heap.size + 1 + 1 + 1 + 1, 0, none⟩ (.bool true)).same D _ HD8.out rfl
            have hkb : ((w8.setCell ⟨w.heap.size + 1 + 1 + 1 + 1, 0, none⟩ (.bool true)).putObj D2 (.deferred none)).heap[D]? = some (.deferred (some [])) := by
              rw [World.putObj_heap_other hne]; exact hkb0
            refine ⟨by simp, .inl ⟨_, _, rfl, run_takeDeferred hka, ?_⟩⟩
            refine ⟨by simp, .inl ⟨_, _, rfl, run_takeDeferred hkb, ?_⟩⟩
            have xb : Boxed (((w8.setCell ⟨w.heap.size + 1 + 1 + 1 + 1, 0, none⟩ (.bool true)).putObj D2 (.deferred none)).putObj D (.deferred none)) (w.heap.size + 1 + 1 + 1 + 1) 4 (.bool true) :=
              ((Boxed.set (.bool true) (show Boxed w8 (w.heap.size + 1 + 1 + 1 + 1) 4 (.bool false) from HX8.out)).kept (grownBy_putObj' _ D2 _) (by simp; omega)).kept (grownBy_putObj' _ D _) (by simp; omega)
            have xc := xb.cell
            refine ⟨.bool true, by simp [results, Try.results7, go_sem, xc], rfl, ?_⟩
            exact ((HB9.out.setCell (p := ⟨w.heap.size + 1 + 1 + 1 + 1, 0, none⟩) (by simp; omega) _).trans (belowK_b (w := w) (Nat.le_refl _) _ D2 _ _ (by omega) hka rfl rfl)).trans (belowK_b (w := w) (Nat.le_refl _) _ D _ _ (by omega) hkb rfl rfl)
          case stop2 =>
            rintro D2 c' pre W2 _ _ h _
            exact h.elim
        · have h0 : ¬ stop < 0 := by omega
          have h1 : (0 : Int) ≤ stop := by omega
          have h2 : ¬ stop < (T : Int) := by omega
          obtain ⟨tl, htl⟩ : ∃ tl, tl = W.heap.size := ⟨_, rfl⟩
          obtain ⟨W', hW'⟩ : ∃ W', W' = W.alloc (.cells #[.slice none 0 0] 22) := ⟨_, rfl⟩
          have hzW : W'.heap.size = tl + 1 := by rw [hW', htl]; simp
          have hb1 : Below W.heap.size W W' := by rw [hW']; exact (Below.refl _ _).alloc (Nat.le_refl _) _
          have hbx : Boxed W' tl 22 (.slice none 0 0) := by rw [hW', htl]; exact Boxed.new _ _ _
          have hs' := hs.ck (CK.of_below hb1) (hs.below.trans (hb1.mono hs.below.size))
          have hDl : D < tl := by rw [htl]; exact (Array.getElem?_eq_some_iff.1 hK).1
          have hK1 : W'.heap[D]? = some (.deferred (some [])) := (hb1.block D (by omega)).trans hK
          have HS' := hide_it hs'
          have HK1 := hide_it hK1
          have HBX := hide_it hbx
          have HW' := hide_it hW'
          have HTL := hide_it htl
          have hbal : ba < tl := by rw [htl]; exact hs.q2.lt
          have hqlt := hs.pair.both.qu.lt
          have hcl : c < tl := by rw [htl]; exact (Array.getElem?_eq_some_iff.1 hs.pair.box).1
          rw [← htl] at hqlt
          have hlow5 := hs.low
          have hp4 : w.heap.size + 5 ≤ tl := by rw [htl]; exact hs.pm.cells.2.2.2.2.2.2
          have hvin : ∀ j, v.ownBlock = some j → j < tl := by rw [htl]; exact hs.pair.both.ow.inside
          have HVIN := hide_it hvin
          clear hvin
          clear hs hs' hb1 hbx hK hK1 hW' htl
          subst hact
          gi_wp2_with fail
          rw [← HW'.out, ← HTL.out]
          clear HW' HTL
          generalize hact2 : ({ tmps := _, defers := _ } : Act) = act2
          refine wpIn_rangeFunc_ownG (F := Fence.wide) rfl (by omega) (gf := 33) (lb := #[.pointer (some ⟨ba, 0, none⟩)]) (by rw [← hact2]; rfl) trivial (enters_of Try.func33 (by kernel_rfl) rfl)
            (allS_stops _ ba g 64 (some ⟨b, 0, none⟩) ⟨tl, 0, none⟩ zs W' (.inr ⟨b, rfl, HS'.out.pair.both.qu⟩) (by omega) HS'.out.q2.cell (by omega) (by simp; omega) (fun k hk => by simp [ownAt, HBX.out.cell, Value.ownBlock] at hk)) keepS_t (keepS_b (by simp; omega)) (Below.refl _ _) (fun _ => rfl)
            (fun pre W => (∃ v, Boxed W tl 22 v ∧ OwS W tl v (pre.map Prod.snd) ∧ True) ∧ Below tl W' W)
            (fun _ _ _ => False)
            (OwnFrom.and (Own.from (holdsRow_own tl tl 22 9 1 (fun pre : List (Nat × ByteArray) => (pre.map Prod.snd).length) (fun pre => (pre.map Prod.snd).map encS) (fun _ _ => True)) _) (ownFrom_below (by omega) (by omega)))
            (fun _ _ _ _ _ hs _ _ => hs)
            ⟨⟨_, HBX.out, World.ownsRow_nil _ _ _ _, trivial⟩, Below.refl _ _⟩
            (fun x => { tmps := ((act2.tmps.setIfInBounds 136 (.int .i64 (x.1 : Int))).setIfInBounds 137 (.string x.2)).setIfInBounds 25 (.string x.2), defers := [] }) ?assign2 ?body2 ?done2 ?stop2
          case assign2 =>
            subst hact2
            intro l x W K hK
            gi_wp2
            simp only [List.setIfInBounds_toArray, List.set_cons_zero, List.set_cons_succ] at hK
            exact hK
          case body2 =>
            rintro l pre ⟨y, z⟩ Wb ⟨⟨v, hv, hrow2, _⟩, hB⟩ hlt
            subst hact2
            simp only [List.setIfInBounds_toArray, List.set_cons_zero, List.set_cons_succ]
            have hc := hv.cell
            have hsB := hB.size
            obtain ⟨a2, cap2, rfl, _, _, _⟩ := hrow2.row
            have hla : (pre.map Prod.snd).length = pre.length := by simp
            have hr2 : Wb.ownsRow tl 9 1 (.slice a2 pre.length cap2) pre.length ((pre.map Prod.snd).map encS) := by rw [← hla]; exact hrow2
            rw [hla] at hc hv
            have HV := hide_it hv
            have HR := hide_it hr2
            have HBB := hide_it hB
            have hpl : pre.length < 65536 := by have := HS'.out.pair.both.qu.len; omega
            clear hrow2 hv hr2 hB hla
            obtain ⟨i0, hi0, hz0, hz1, hz2⟩ := info_parts infoQS
            gi_wp2_with (gi_at_builtin; refine wpListIn_append_own_at _ rfl _ _ 22 rfl tl 9 i0 (.string .empty) 1 16 Try.underlying22 hi0 hz0 hz1 hz2 rfl (by decide) _ _ _ rfl (HR.out.alloc _) ⟨Wb.heap.size, 0, none⟩ 1 1 [.string z] rfl rfl (cell_one_new _ _ _) (by simp [Value.oneCell']) (by unfold maxLen; omega) (by omega) (by simp; omega) ?_; intro v' w1 hown' hgrow _ hat; obtain ⟨g', cap', rfl⟩ := ownsRow_succ hown'; obtain ⟨hv1, hv2, hr3, hk2, hb2⟩ := HV.out.appended (by decide) HR.out (by omega) (Nat.le_refl _) hown' hgrow; have hc1 := hv1.cell; have hf1 := hv1.frozen; have HA := hide_it hat; have HG := hide_it hgrow; have HV2 := hide_it hv2; have HR3 := hide_it hr3; have HK2 := hide_it hk2; have HB2 := hide_it hb2; clear hat hgrow hown' hv1 hv2 hr3 hk2 hb2)
            refine ⟨HK2.out.from _, keepS_appended (by omega) HV.out HV2.out HG.out HA.out, ⟨_, HV2.out, ?_⟩, HBB.out.trans HB2.out⟩
            have := HR3.out
            unfold OwS
            simpa [encS] using this
          case done2 =>
            rintro D2 ys2 W2 hD2' rfl ⟨⟨u, hv, hrow2, _⟩, hB⟩ hK2
            rw [numS_all] at hrow2
            subst hact2
            obtain ⟨a2, cap2, hu, hr2, _, _⟩ := hrow2.row
            have how2 := HS'.out.pair.both.ow.heap (w' := W2) fun j hj => hB.block j (HVIN.out j hj)
            obtain ⟨va, vc, hvv, hrv, _, _⟩ := how2.row
            have heq : Calls Try.prog 17 #[.slice a2 zs.length cap2, .slice va zs.length vc] W2 fun e w' => e = .returned (.bool true) ∧ Below W2.heap.size W2 w' :=
              (equalS_any a2 va cap2 vc zs zs W2 hr2 hrv (by have := HS'.out.pair.both.qu.len; omega)).mono fun e w' ⟨h1, h2⟩ => ⟨by rw [h1]; simp, h2⟩
            have p1 := (hB.cell (p := ⟨c, 1, none⟩) hcl).trans HS'.out.pair.cells.2.1
            have b8 := (hB.block (w.heap.size + 1 + 1 + 1 + 1) (by omega)).trans HS'.out.pm.p4
            have hKD := (hB.block D hDl).trans HK1.out
            have cl := hv.cell
            rw [hvv] at p1
            subst hu
            have hBW : Below w.heap.size w W2 := HS'.out.below.trans (hB.mono (by omega))
            have hD2l : D2 < W2.heap.size := (Array.getElem?_eq_some_iff.1 hK2).1
            have HBW := hide_it hBW
            have HB8 := hide_it b8
            have HKD := hide_it hKD
            have HK2 := hide_it hK2
            clear hv hrow2 hr2 how2 hrv hB b8 hKD hK2 hBW
            gi_wp2_with fail
            refine ⟨trivial, ?_⟩
            refine (callsIn_wide.2 heq).mono ?_
            rintro e w8 ⟨rfl, hb8⟩
            have hbx8 := (hb8.block (w.heap.size + 1 + 1 + 1 + 1) (by have := (Array.getElem?_eq_some_iff.1 HB8.out).1; omega)).trans HB8.out
            have x0 := cell_of_row _ _ 0 _ _ _ hbx8
            have x1 := frozen_of_row _ _ 0 _ _ hbx8
            simp only [List.getElem?_toArray, List.getElem?_cons_zero] at x0
            have HK8 := hide_it ((hb8.block D2 hD2l).trans HK2.out)
            have HD8 := hide_it ((hb8.block D (by have := (Array.getElem?_eq_some_iff.1 HKD.out).1; omega)).trans HKD.out)
            have HX8 := hide_it hbx8
            have HB9 := hide_it (HBW.out.trans (hb8.mono HBW.out.size))
            clear heq hb8 hbx8 cl p1
            gi_wp2
            have hne : D ≠ D2 := by omega
            have hka := (KeepsOthers.setCell w8 ⟨w.heap.size + 1 + 1 + 1 + 1, 0, none⟩ (.bool true)).same D2 _ HK8.out rfl
            have hkb0 := (KeepsOthers.setCell w8 ⟨w.heap.size + 1 + 1 + 1 + 1, 0, none⟩ (.bool true)).same D _ HD8.out rfl
            have hkb : ((w8.setCell ⟨w.heap.size + 1 + 1 + 1 + 1, 0, none⟩ (.bool true)).putObj D2 (.deferred none)).heap[D]? = some (.deferred (some [])) := by
              rw [World.putObj_heap_other hne]; exact hkb0
            refine ⟨by simp, .inl ⟨_, _, rfl, run_takeDeferred hka, ?_⟩⟩
            refine ⟨by simp, .inl ⟨_, _, rfl, run_takeDeferred hkb, ?_⟩⟩
            have xb : Boxed (((w8.setCell ⟨w.heap.size + 1 + 1 + 1 + 1, 0, none⟩ (.bool true)).putObj D2 (.deferred none)).putObj D (.deferred none)) (w.heap.size + 1 + 1 + 1 + 1) 4 (.bool true) :=
              ((Boxed.set (.bool true) (show Boxed w8 (w.heap.size + 1 + 1 + 1 + 1) 4 (.bool false) from HX8.out)).kept (grownBy_putObj' _ D2 _) (by simp; omega)).kept (grownBy_putObj' _ D _) (by simp; omega)
            have xc := xb.cell
            refine ⟨.bool true, by simp [results, Try.results7, go_sem, xc], rfl, ?_⟩
            exact ((HB9.out.setCell (p := ⟨w.heap.size + 1 + 1 + 1 + 1, 0, none⟩) (by simp; omega) _).trans (belowK_b (w := w) (Nat.le_refl _) _ D2 _ _ (by omega) hka rfl rfl)).trans (belowK_b (w := w) (Nat.le_refl _) _ D _ _ (by omega) hkb rfl rfl)
          case stop2 =>
            rintro D2 c' pre W2 _ _ h _
            exact h.elim
      case stop =>
        rintro D c' pre W hD ⟨kk, hkk, rfl⟩ (⟨rfl, pre', x, he, hne⟩ | ⟨rfl, ⟨g, v, zs, hs⟩, hlen, hst0⟩) hK
        · exfalso
          cases kk with
          | zero => simp [upTo] at he
          | succ kk =>
            rw [upTo_succ] at he
            obtain ⟨e1, e2⟩ := List.append_inj' he rfl
            have e3 : numS th kk = x := by simpa using e2
            apply hne
            rw [← e3, ← e1, upTo_length]
        · rw [upTo_length] at hs hlen
          obtain ⟨c0, c1, c2, c3, c4, f4, sB⟩ := hs.pm.cells
          have cn := hs.nn.cell
          have hkT : kk ≤ T := by rw [HT.out]; exact hkk
          have h0 : ¬ stop < 0 := by omega
          have h2 : stop < (T : Int) := by omega
          have h3 : ¬ (T : Int) ≤ stop := by omega
          have hw1 : IntKind.i64.wrap (stop + 1) = (kk : Int) := by rw [← hlen]; exact i64_in (by omega) (by omega)
          clear hlen
          obtain ⟨tl, htl⟩ : ∃ tl, tl = W.heap.size := ⟨_, rfl⟩
          obtain ⟨W', hW'⟩ : ∃ W', W' = W.alloc (.cells #[.slice none 0 0] 22) := ⟨_, rfl⟩
          have hzW : W'.heap.size = tl + 1 := by rw [hW', htl]; simp
          have hb1 : Below W.heap.size W W' := by rw [hW']; exact (Below.refl _ _).alloc (Nat.le_refl _) _
          have hbx : Boxed W' tl 22 (.slice none 0 0) := by rw [hW', htl]; exact Boxed.new _ _ _
          have hs' := hs.ck (CK.of_below hb1) (hs.below.trans (hb1.mono hs.below.size))
          have hDl : D < tl := by rw [htl]; exact (Array.getElem?_eq_some_iff.1 hK).1
          have hK1 : W'.heap[D]? = some (.deferred (some [])) := (hb1.block D (by omega)).trans hK
          have HS' := hide_it hs'
          have HK1 := hide_it hK1
          have HBX := hide_it hbx
          have HW' := hide_it hW'
          have HTL := hide_it htl
          have hbal : ba < tl := by rw [htl]; exact hs.q2.lt
          have hqlt := hs.pair.both.qu.lt
          have hcl : c < tl := by rw [htl]; exact (Array.getElem?_eq_some_iff.1 hs.pair.box).1
          rw [← htl] at hqlt
          have hlow5 := hs.low
          have hp4 : w.heap.size + 5 ≤ tl := by rw [htl]; exact hs.pm.cells.2.2.2.2.2.2
          have hvin : ∀ j, v.ownBlock = some j → j < tl := by rw [htl]; exact hs.pair.both.ow.inside
          have HVIN := hide_it hvin
          clear hvin
          clear hs hs' hb1 hbx hK hK1 hW' htl
          subst hact
          gi_wp2_with fail
          rw [← HW'.out, ← HTL.out]
          clear HW' HTL
          generalize hact2 : ({ tmps := _, defers := _ } : Act) = act2
          refine wpIn_rangeFunc_ownG (F := Fence.wide) rfl (by omega) (gf := 33) (lb := #[.pointer (some ⟨ba, 0, none⟩)]) (by rw [← hact2]; rfl) trivial (enters_of Try.func33 (by kernel_rfl) rfl)
            (allS_stops _ ba g 64 (some ⟨b, 0, none⟩) ⟨tl, 0, none⟩ zs W' (.inr ⟨b, rfl, HS'.out.pair.both.qu⟩) (by omega) HS'.out.q2.cell (by omega) (by simp; omega) (fun k hk => by simp [ownAt, HBX.out.cell, Value.ownBlock] at hk)) keepS_t (keepS_b (by simp; omega)) (Below.refl _ _) (fun _ => rfl)
            (fun pre W => (∃ v, Boxed W tl 22 v ∧ OwS W tl v (pre.map Prod.snd) ∧ True) ∧ Below tl W' W)
            (fun _ _ _ => False)
            (OwnFrom.and (Own.from (holdsRow_own tl tl 22 9 1 (fun pre : List (Nat × ByteArray) => (pre.map Prod.snd).length) (fun pre => (pre.map Prod.snd).map encS) (fun _ _ => True)) _) (ownFrom_below (by omega) (by omega)))
            (fun _ _ _ _ _ hs _ _ => hs)
            ⟨⟨_, HBX.out, World.ownsRow_nil _ _ _ _, trivial⟩, Below.refl _ _⟩
            (fun x => { tmps := ((act2.tmps.setIfInBounds 136 (.int .i64 (x.1 : Int))).setIfInBounds 137 (.string x.2)).setIfInBounds 25 (.string x.2), defers := [] }) ?assign2 ?body2 ?done2 ?stop2
          case assign2 =>
            subst hact2
            intro l x W K hK
            gi_wp2
            simp only [List.setIfInBounds_toArray, List.set_cons_zero, List.set_cons_succ] at hK
            exact hK
          case body2 =>
            rintro l pre ⟨y, z⟩ Wb ⟨⟨v, hv, hrow2, _⟩, hB⟩ hlt
            subst hact2
            simp only [List.setIfInBounds_toArray, List.set_cons_zero, List.set_cons_succ]
            have hc := hv.cell
            have hsB := hB.size
            obtain ⟨a2, cap2, rfl, _, _, _⟩ := hrow2.row
            have hla : (pre.map Prod.snd).length = pre.length := by simp
            have hr2 : Wb.ownsRow tl 9 1 (.slice a2 pre.length cap2) pre.length ((pre.map Prod.snd).map encS) := by rw [← hla]; exact hrow2
            rw [hla] at hc hv
            have HV := hide_it hv
            have HR := hide_it hr2
            have HBB := hide_it hB
            have hpl : pre.length < 65536 := by have := HS'.out.pair.both.qu.len; omega
            clear hrow2 hv hr2 hB hla
            obtain ⟨i0, hi0, hz0, hz1, hz2⟩ := info_parts infoQS
            gi_wp2_with (gi_at_builtin; refine wpListIn_append_own_at _ rfl _ _ 22 rfl tl 9 i0 (.string .empty) 1 16 Try.underlying22 hi0 hz0 hz1 hz2 rfl (by decide) _ _ _ rfl (HR.out.alloc _) ⟨Wb.heap.size, 0, none⟩ 1 1 [.string z] rfl rfl (cell_one_new _ _ _) (by simp [Value.oneCell']) (by unfold maxLen; omega) (by omega) (by simp; omega) ?_; intro v' w1 hown' hgrow _ hat; obtain ⟨g', cap', rfl⟩ := ownsRow_succ hown'; obtain ⟨hv1, hv2, hr3, hk2, hb2⟩ := HV.out.appended (by decide) HR.out (by omega) (Nat.le_refl _) hown' hgrow; have hc1 := hv1.cell; have hf1 := hv1.frozen; have HA := hide_it hat; have HG := hide_it hgrow; have HV2 := hide_it hv2; have HR3 := hide_it hr3; have HK2 := hide_it hk2; have HB2 := hide_it hb2; clear hat hgrow hown' hv1 hv2 hr3 hk2 hb2)
            refine ⟨HK2.out.from _, keepS_appended (by omega) HV.out HV2.out HG.out HA.out, ⟨_, HV2.out, ?_⟩, HBB.out.trans HB2.out⟩
            have := HR3.out
            unfold OwS
            simpa [encS] using this
          case done2 =>
            rintro D2 ys2 W2 hD2' rfl ⟨⟨u, hv, hrow2, _⟩, hB⟩ hK2
            rw [numS_all] at hrow2
            subst hact2
            obtain ⟨a2, cap2, hu, hr2, _, _⟩ := hrow2.row
            have how2 := HS'.out.pair.both.ow.heap (w' := W2) fun j hj => hB.block j (HVIN.out j hj)
            obtain ⟨va, vc, hvv, hrv, _, _⟩ := how2.row
            have heq : Calls Try.prog 17 #[.slice a2 zs.length cap2, .slice va zs.length vc] W2 fun e w' => e = .returned (.bool true) ∧ Below W2.heap.size W2 w' :=
              (equalS_any a2 va cap2 vc zs zs W2 hr2 hrv (by have := HS'.out.pair.both.qu.len; omega)).mono fun e w' ⟨h1, h2⟩ => ⟨by rw [h1]; simp, h2⟩
            have p1 := (hB.cell (p := ⟨c, 1, none⟩) hcl).trans HS'.out.pair.cells.2.1
            have b8 := (hB.block (w.heap.size + 1 + 1 + 1 + 1) (by omega)).trans HS'.out.pm.p4
            have hKD := (hB.block D hDl).trans HK1.out
            have cl := hv.cell
            rw [hvv] at p1
            subst hu
            have hBW : Below w.heap.size w W2 := HS'.out.below.trans (hB.mono (by omega))
            have hD2l : D2 < W2.heap.size := (Array.getElem?_eq_some_iff.1 hK2).1
            have HBW := hide_it hBW
            have HB8 := hide_it b8
            have HKD := hide_it hKD
            have HK2 := hide_it hK2
            clear hv hrow2 hr2 how2 hrv hB b8 hKD hK2 hBW
            gi_wp2_with fail
            refine ⟨trivial, ?_⟩
            refine (callsIn_wide.2 heq).mono ?_
            rintro e w8 ⟨rfl, hb8⟩
            have hbx8 := (hb8.block (w.heap.size + 1 + 1 + 1 + 1) (by have := (Array.getElem?_eq_some_iff.1 HB8.out).1; omega)).trans HB8.out
            have x0 := cell_of_row _ _ 0 _ _ _ hbx8
            have x1 := frozen_of_row _ _ 0 _ _ hbx8
            simp only [List.getElem?_toArray, List.getElem?_cons_zero] at x0
            have HK8 := hide_it ((hb8.block D2 hD2l).trans HK2.out)
            have HD8 := hide_it ((hb8.block D (by have := (Array.getElem?_eq_some_iff.1 HKD.out).1; omega)).trans HKD.out)
            have HX8 := hide_it hbx8
            have HB9 := hide_it (HBW.out.trans (hb8.mono HBW.out.size))
            clear heq hb8 hbx8 cl p1
            gi_wp2
            have hne : D ≠ D2 := by omega
            have hka := (KeepsOthers.setCell w8 ⟨w.heap.size + 1 + 1 + 1 + 1, 0, none⟩ (.bool true)).same D2 _ HK8.out rfl
            have hkb0 := (KeepsOthers.setCell w8 ⟨w.heap.size + 1 + 1 + 1 + 1, 0, none⟩ (.bool true)).same D _ HD8.out rfl
            have hkb : ((w8.setCell ⟨w.heap.size + 1 + 1 + 1 + 1, 0, none⟩ (.bool true)).putObj D2 (.deferred none)).heap[D]? = some (.deferred (some [])) := by
              rw [World.putObj_heap_other hne]; exact hkb0
            refine ⟨by simp, .inl ⟨_, _, rfl, run_takeDeferred hka, ?_⟩⟩
            refine ⟨by simp, .inl ⟨_, _, rfl, run_takeDeferred hkb, ?_⟩⟩
            have xb : Boxed (((w8.setCell ⟨w.heap.size + 1 + 1 + 1 + 1, 0, none⟩ (.bool true)).putObj D2 (.deferred none)).putObj D (.deferred none)) (w.heap.size + 1 + 1 + 1 + 1) 4 (.bool true) :=
              ((Boxed.set (.bool true) (show Boxed w8 (w.heap.size + 1 + 1 + 1 + 1) 4 (.bool false) from HX8.out)).kept (grownBy_putObj' _ D2 _) (by simp; omega)).kept (grownBy_putObj' _ D _) (by simp; omega)
            have xc := xb.cell
            refine ⟨.bool true, by simp [results, Try.results7, go_sem, xc], rfl, ?_⟩
            exact ((HB9.out.setCell (p := ⟨w.heap.size + 1 + 1 + 1 + 1, 0, none⟩) (by simp; omega) _).trans (belowK_b (w := w) (Nat.le_refl _) _ D2 _ _ (by omega) hka rfl rfl)).trans (belowK_b (w := w) (Nat.le_refl _) _ D _ _ (by omega) hkb rfl rfl)
          case stop2 =>
            rintro D2 c' pre W2 _ _ h _
            exact h.elim

theorem walk (ta : Option Addr) (tc : Nat) (th : List ByteArray) (at_ : Int) (_ : -9223372036854775808 ≤ at_ ∧ at_ ≤ 9223372036854775807) (stop : Int) (_ : -9223372036854775808 ≤ stop ∧ stop ≤ 9223372036854775807) (a : Option Addr) (n cap : Nat) (A : Nat → Sp) (w : World) (hrt : RwS w ta th) (hnil : ta = none → th.length = 0 ∧ tc = 0) (hcame : CameT w a n A) :
    Calls Try.prog 7 #[.slice ta th.length tc, .int .i64 at_, .int .i64 stop, .slice a n cap] w fun e w' => e = .returned (.bool true) ∧ Below w.heap.size w w' := by
  by_cases h : 64 < th.length
  · exact walk_out ta tc th at_ stop a n cap w h
  · exact walk_in ta tc th at_ stop a n cap A w (by omega) hrt hnil hcame

end Go.Proofs.Ytomfhbngpikjeaa.queueWalk
