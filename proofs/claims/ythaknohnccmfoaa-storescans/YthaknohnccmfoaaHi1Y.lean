/- What All of a chain answers, and what goes through it. -/
import Derived.Test.YthaknohnccmfoaaHn5Y
import Derived.Test.YthaknohnccmfoaaRg1
import Derived.Maps.OwnIn
namespace Go.Proofs.Ythaknohnccmfoaa.kY
open Go.RowKit Go.Shelf

attribute [local go_sem] Oper.semAt_some

/-- append inside a loop over an iterator. -/
theorem wpListIn_append_S {F : Fence} {nF : Nat} {P : Program} {w : World} {base : Nat} {e : TypeId} {sz bytes : Nat} {v : Value} {n : Nat} {xs : List Value} {ops : Array Oper} {rest : List Oper} {o : Oper} {a : Act} {Q : Exit → Act → World → Prop} (hgd : o.guard = none) (s x : Operand) (t tx : TypeId)
    (ho : o.op = .call { callee := .builtin .append, args := #[s, x], argTypes := #[t, tx] })
    (z : Value) (ht : P.underlying t = some (.slice e)) (hinfo : (P.info? e).map (fun i => (i.zero, i.size, i.bytes)) = some (some z, sz, bytes)) (hzs : z.cells.size = sz)
    (hs : a.eval s = v) (hown : OwnS w base e sz v n xs) (y : Value) (hx : a.eval x = y) (m : Nat) (news : List Value) (hsrc : Src P sz tx y m news w) (h63 : n + m ≤ maxLen) (hbytes : ((n + m) + (n + m) / 4 + 192) * bytes ≤ 281474976710656) (hbase : base ≤ w.heap.size)
    (h : ∀ v' w', OwnS w' base e sz v' (n + m) (xs ++ news) → w.grownBy w' v.ownBlock → (v'.ownBlock = v.ownBlock ∨ v'.ownBlock = some w.heap.size) → wpListIn F nF P ops Q rest (a.put o.dst v') w') :
    wpListIn F nF P ops Q (o :: rest) a w := by
  refine wpListIn_plain hgd fun K hK => ?_
  obtain ⟨v', w', hr, h2, h3, h4⟩ := run_append_S (P := P) t tx o.type z ht hinfo hzs hown y m news hsrc h63 hbytes hbase
  unfold Oper.wpIn
  refine ⟨by simp [Oper.about, ho, resolve, Target.leads, Sem.run_pure], ?_⟩
  rw [Oper.semAt_plain F _ _ (by rw [ho]; intro c hc'; cases hc')]
  simp [execOp, ho, resolve, invoke, builtin, hs, hx, hr, Result.andThen]
  exact hK _ _ (h v' w' h2 h3 h4)

theorem take_succ_lk {xs : List Lk} {k : Nat} (h : k < xs.length) : xs.take (k + 1) = xs.take k ++ [lk xs k] := by
  rw [List.take_succ_eq_append_getElem h, lk_get h]
theorem rev_len (xs : List Lk) {I : Nat} (hI : I ≤ xs.length) : (xs.reverse.take (xs.length - I)).length = xs.length - I := by
  rw [List.length_take, List.length_reverse]; omega
theorem rev_succ (xs : List Lk) {q : Nat} (hq : q < xs.length) : xs.reverse.take (xs.length - q) = xs.reverse.take (xs.length - (q + 1)) ++ [lk xs q] := by
  rw [show xs.length - q = (xs.length - (q + 1)) + 1 by omega, take_succ_lk (by rw [List.length_reverse]; omega), lk_rev (by omega)]
  congr 2; rw [show xs.length - 1 - (xs.length - (q + 1)) = q by omega]
/-- What is known of a link that is handed over: it is the next one. -/
def GL (xs : List Lk) (pre : List Lk) (x : Lk) (_ _ : World) : Prop := pre = xs.reverse.take pre.length ∧ pre.length < xs.length ∧ x = lk xs.reverse pre.length
/-- What a round must leave: the row of links. -/
structure KpL (a : Option Addr) (xs : List Lk) (W W' : World) : Prop where
  size : W.heap.size ≤ W'.heap.size
  row : RowL W a xs → RowL W' a xs
theorem kpL_t {a : Option Addr} {xs : List Lk} {A B C : World} (h : KpL a xs A B) (k : KpL a xs B C) : KpL a xs A C := ⟨Nat.le_trans h.size k.size, fun r => k.row (h.row r)⟩
theorem kpL_b {a : Option Addr} {xs : List Lk} (W : World) (l : Nat) (o o' : Obj) (hl : W.heap[l]? = some o) (ho : o.isCells = false) : KpL a xs W (W.putObj l o') := by
  refine ⟨by simp, fun r => ?_⟩
  rcases r with h | ⟨b, f, cur, t, e, hh, hc⟩
  · exact .inl h
  · refine .inr ⟨b, f, cur, t, e, ?_, hc⟩
    rw [World.putObj_heap_other (fun e2 => ?_)]
    · exact hh
    · subst e2; rw [hh] at hl; cases hl; cases ho

set_option maxRecDepth 100000 in
set_option maxHeartbeats 400000 in
theorem all_any (q : Option Addr) (w : World) :
    Calls Try.prog 43 #[.pointer q] w fun e w' => e = .returned (.func (.func 63) #[] #[.pointer (some ⟨w.heap.size, 0, none⟩)]) ∧ w' = w.alloc (.cells #[.pointer q] 88) := by
  have hmf : ∀ (fn : Fn) (first cap : Array Value) (w : World), (Instr.makeFunc fn first cap).run Try.prog w = .ok (.func fn first cap) w := fun _ _ _ _ => rfl
  go_enter Try.func43, Try.ntmps43
  go_wp2
  go_ret
  exact ⟨rfl, rfl⟩

set_option maxRecDepth 100000 in
set_option maxHeartbeats 1000000 in
theorem walkN_any (n l Bq : Nat) (W : World) (hBq : W.cell? ⟨Bq, 0, none⟩ = some (.pointer none)) :
    CallsIn Fence.wide n Try.prog 63 #[.func (.yield l) #[] #[], .pointer (some ⟨Bq, 0, none⟩)] W fun e W' => (∃ v, e = .returned v) ∧ W' = W := by
  refine callsIn_of_wp Try.func63 rfl trivial ?_ rfl
  simp only [Try.ntmps63, List.size_toArray, List.length_cons, List.length_nil, Nat.reduceAdd, Nat.reduceSub, Array.replicate_succ, Array.replicate_zero, List.push_toArray, List.append_toArray, List.nil_append, List.cons_append]
  gi_wp2
  refine bodyPost_ret (results_none rfl _ _ _) rfl ?_
  exact ⟨⟨_, rfl⟩, rfl⟩

set_option maxRecDepth 100000 in
set_option maxHeartbeats 2000000 in
theorem walkC_any (n l Bq p : Nat) (F : Nat → Prop) (a : Option Addr) (cap : Nat) (xs : List Lk) (W : World) (hBq : W.cell? ⟨Bq, 0, none⟩ = some (.pointer (some ⟨p, 0, none⟩))) (h : Hn W F p (.slice a xs.length cap) xs) (hn : 1 ≤ n) (hl : xs.length ≤ 4000000000000)
    (J Jx : List Lk → World → Prop)
    (hY : ∀ pre x X W1, J pre X → Below X.heap.size X W1 → GL xs pre x X W1 → YieldAt Fence.wide (n - 1) Try.prog l #[lkV x] W1 fun e W' => (e = .returned (.bool true) ∧ J (pre ++ [x]) W' ∧ KpL a xs W1 W') ∨ (e = .returned (.bool false) ∧ Jx (pre ++ [x]) W'))
    (hJ0 : J [] W) :
    CallsIn Fence.wide n Try.prog 63 #[.func (.yield l) #[] #[], .pointer (some ⟨Bq, 0, none⟩)] W fun e W' => (∃ v, e = .returned v) ∧
      ((∃ ys X, ys = xs.reverse ∧ J ys X ∧ Below X.heap.size X W') ∨ (∃ pre X, (∃ k, k ≤ xs.length ∧ pre = xs.reverse.take k) ∧ Jx pre X ∧ Below X.heap.size X W')) := by
  obtain ⟨c0, _⟩ := h.cell
  obtain ⟨a', cap', ev, hrow, hcn, hcm, _, _⟩ := h.row
  cases ev
  obtain ⟨N, hN⟩ : ∃ N, N = xs.length := ⟨_, rfl⟩
  rw [← hN] at c0 hl hcn ⊢
  have HN := hide_it hN
  have HR := hide_it hrow
  have hw0 : IntKind.i64.wrap ((N : Int) - 1) = (N : Int) - 1 := i64_in (by omega) (by omega)
  clear hN hrow h hcm
  refine callsIn_of_wp Try.func63 rfl trivial ?_ rfl
  simp only [Try.ntmps63, List.size_toArray, List.length_cons, List.length_nil, Nat.reduceAdd, Nat.reduceSub, Array.replicate_succ, Array.replicate_zero, List.push_toArray, List.append_toArray, List.nil_append, List.cons_append]
  gi_wp2
  gi_loopw [4] (fun i wr => ∃ I : Nat, I ≤ N ∧ i = .int .i64 ((I : Int) - 1) ∧ Hid (J (xs.reverse.take (N - I)) wr) ∧ Hid (RowL wr a xs)) (fun i _ => (intOf i + 1).toNat)
  case atStart => exact ⟨N, by omega, rfl, hide_it (by rw [Nat.sub_self]; exact hJ0), HR⟩
  case round =>
    clear HR hJ0 c0 hBq
    obtain ⟨I, hI, rfl, HJ, HR⟩ := hrel
    by_cases hI0 : I = 0
    · subst hI0
      rw [show ((0 : Nat) : Int) - 1 = -1 by rfl] at *
      have HJ2 : Hid (J xs.reverse wr) := by
        have h9 := HJ.out
        rw [Nat.sub_zero, List.take_of_length_le (by rw [List.length_reverse, ← HN.out]; omega)] at h9
        exact hide_it h9
      clear HJ
      gi_wp2
      go_end0
      exact ⟨⟨_, rfl⟩, .inl ⟨_, _, rfl, HJ2.out, Below.refl _ _⟩⟩
    · obtain ⟨q, rfl⟩ : ∃ q, I = q + 1 := ⟨I - 1, by omega⟩
      rw [show ((q + 1 : Nat) : Int) - 1 = (q : Int) by omega]
      have hq0 : (q : Int) ≥ 0 := by omega
      have hqi : (q : Int) < (N : Int) := by omega
      have hqx : q < xs.length := by have := HN.out; omega
      have hwq : IntKind.i64.wrap ((q : Int) - 1) = (q : Int) - 1 := i64_in (by omega) (by omega)
      obtain ⟨b, o, rfl, hb, d0, d1, d2⟩ := HR.out.here hqx
      have hpl : (xs.reverse.take (N - (q + 1))).length = N - (q + 1) := by rw [HN.out]; exact rev_len xs (by omega)
      have hgl : GL xs (xs.reverse.take (N - (q + 1))) (lk xs q) wr wr := by
        refine ⟨by rw [hpl], by rw [hpl]; have := HN.out; omega, ?_⟩
        rw [hpl, lk_rev (by have := HN.out; omega)]
        congr 1; have := HN.out; omega
      obtain ⟨fn, tmps, assign, body, hy, hRn⟩ := hY _ _ wr wr HJ.out (Below.refl _ _) hgl
      have HS : Hid (xs.reverse.take (N - (q + 1)) ++ [lk xs q] = xs.reverse.take (N - q)) := by
        have e := rev_succ xs hqx
        rw [← HN.out] at e
        exact hide_it e.symm
      rw [HS.out] at hRn
      unfold lkV at hy
      generalize lk xs q = x at *
      clear hgl hpl hb HS HJ
      gi_wp2
      refine hRn.mono ?_
      rintro e2 W3 (⟨rfl, hJ3, hk3⟩ | ⟨rfl, hJx3⟩)
      · have HJ3 := hide_it hJ3
        have HR3 := hide_it (hk3.row HR.out)
        clear hJ3 hk3
        gi_wp2
        go_roundw
        case rel => exact ⟨q, by omega, rfl, HJ3, HR3⟩
        case measure => simp [intOf]
      · have HJ3 := hide_it hJx3
        clear hJx3
        gi_wp2
        refine bodyPost_ret (results_none rfl _ _ _) rfl ?_
        exact ⟨⟨_, rfl⟩, .inr ⟨_, W3, ⟨N - q, by have := HN.out; omega, rfl⟩, HJ3.out, Below.refl _ _⟩⟩

end Go.Proofs.Ythaknohnccmfoaa.kY
