/- The keys of a map, sorted; what goes through them from the end. -/
import Derived.Test.YthaknohnccmfoaaSo11
import Derived.Test.YthaknohnccmfoaaHi1Y
import Derived.Test.YthaknohnccmfoaaRg3
import Derived.Test.YthaknohnccmfoaaLay14
import Derived.Sort.OwnSorted
namespace Go.Proofs.Ythaknohnccmfoaa
open Go.RowKit Go.Maps Go.Sort Go.Shelf

attribute [local go_sem] Oper.semAt_some

theorem before_lt : ∀ {a b : List UInt8}, bytesBefore a b = true ↔ a < b
  | [], [] => by simp [bytesBefore]
  | [], _ :: _ => by simp [bytesBefore]
  | _ :: _, [] => by simp [bytesBefore]
  | x :: r, y :: s => by
    unfold bytesBefore
    rw [List.cons_lt_cons_iff, ← before_lt (a := r) (b := s)]
    simp
theorem sorted_keys {M : List Ky} (h : M.Pairwise fun e f => bytesBefore e.k f.k = true) : (M.map (·.k)).mergeSort leB = M.map (·.k) := by
  refine List.mergeSort_of_pairwise (List.pairwise_map.2 (h.imp fun {a b} hab => ?_))
  exact decide_eq_true (List.le_of_lt (before_lt.1 hab))
theorem strKeys_datM (M : List Ky) : strKeys (datM M) = M.map (·.k) := by
  unfold strKeys datM
  simp only [List.map_map]
  rfl

theorem sorts_any (m : Nat) : AnyZ.SortsIn Try.prog laysSorted_ren Fence.wide m :=
  ⟨fun blk off cap ss W hH hblk hsz => callsIn_wide.2 (AnyM.slices_Sort_string laysSort blk off cap ss W hH hblk hsz),
   fun p cap W => callsIn_wide.2 (AnyM.slices_Sort_string_none laysSort p cap W)⟩
theorem keys_any (mb : Option Nat) (W : World) : CallsIn Fence.wide 5 Try.prog 40 #[.map mb] W fun e w' => e = .returned (.func (.func 62) #[] #[.pointer (some ⟨W.heap.size, 0, none⟩)]) ∧ w' = W.alloc (.cells #[.map mb] 73) :=
  AnyZ.keys_in laysKeys Fence.wide 5 trivial rfl mb W

/-- A row of texts. -/
def RowK (w : World) (a : Option Addr) (ks : List (List UInt8)) : Prop := ks.length = 0 ∨ ∃ (g : Nat) (cur : Array Value), a = some ⟨g, 0, none⟩ ∧ w.heap[g]? = some (.cells cur 9 (0, 0)) ∧ ∀ (i : Nat) (x : List UInt8), ks[i]? = some x → cur[i]? = some (encStr x)
theorem RowK.of_owns {w : World} {base : Nat} {v : Value} {ks : List (List UInt8)} (h : w.ownsRow base 9 1 v ks.length (ks.map encStr)) : ∃ a cap, v = .slice a ks.length cap ∧ RowK w a ks ∧ ∀ g, a = some ⟨g, 0, none⟩ → base ≤ g ∧ g < w.heap.size := by
  rcases h.2 with ⟨rfl, h0⟩ | ⟨g, cap, cur, rfl, hb, hh, hn, hc, hs, ht⟩
  · exact ⟨none, 0, by rw [h0], .inl h0, fun g e => by cases e⟩
  · refine ⟨_, cap, rfl, .inr ⟨g, cur, rfl, hh, fun i x hx => ?_⟩, fun g' e => by cases e; exact ⟨hb, (Array.getElem?_eq_some_iff.1 hh).1⟩⟩
    have hi := (List.getElem?_eq_some_iff.1 hx).1
    have h3 : (cur.toList.take (ks.length * 1))[i]? = (ks.map encStr)[i]? := by rw [ht]
    rw [List.getElem?_take_of_lt (by omega), List.getElem?_map, hx] at h3
    rw [← Array.getElem?_toList]; exact h3
theorem RowK.keep {w w' : World} {a : Option Addr} {ks : List (List UInt8)} (h : RowK w a ks) (hk : ∀ g o, a = some ⟨g, 0, none⟩ → w.heap[g]? = some o → w'.heap[g]? = some o) : RowK w' a ks := by
  rcases h with h | ⟨g, cur, e, hh, hc⟩
  · exact .inl h
  · exact .inr ⟨g, cur, e, hk g _ e hh, hc⟩

/-- The map of a store's content. -/
def MapIs (w : World) (mb : Option Nat) (M : List Ky) : Prop := (mb = none → M = []) ∧ ∀ b, mb = some b → w.ownsMap Try.prog 9 ptrR b M.length (datM M)
set_option maxHeartbeats 1000000 in
/-- The sorted keys of a store's map ('w' ahead of maps.Keys). -/
theorem sorted_any (mb : Option Nat) (M : List Ky) (w : World) (hr : M.Pairwise fun e f => bytesBefore e.k f.k = true) (h : MapIs w mb M) (hM : M.length ≤ 4000000000000) :
    CallsIn Fence.wide 5 Try.prog 39 #[.func (.func 62) #[] #[.pointer (some ⟨w.heap.size, 0, none⟩)]] (w.alloc (.cells #[.map mb] 73)) fun e w' => (∃ v, e = .returned v ∧
      w'.ownsRow (w.heap.size + 1) 9 1 v (M.map (·.k)).length ((M.map (·.k)).map encStr)) ∧ Below (w.heap.size + 1) (w.alloc (.cells #[.map mb] 73)) w' := by
  have hsz : (w.alloc (.cells #[.map mb] 73)).heap.size = w.heap.size + 1 := by simp
  cases mb with
  | some b =>
    have hown : w.ownsMap Try.prog 9 ptrR b M.length (datM M) := h.2 b rfl
    have hbl := hown.lt
    have hsd := size_datM M
    have hseq : SeqGives Fence.wide 2 Try.prog 62 #[.pointer (some ⟨w.heap.size, 0, none⟩)] encStr (fun ss => ss.Perm (strKeys (datM M))) (Maps.size (datM M)) (w.alloc (.cells #[.map (some b)] 73)) :=
      AnyZ.keys_gives (ρ := laysKeys_ren) { laysKeys with } Fence.wide _ trivial rfl (by omega) w.heap.size b M.length (datM M) _ (by simp) (by simp) (by
        obtain ⟨es, clock, hb, Ft, hs, hD⟩ := hown
        exact ⟨es, clock, (Below.heap_alloc _ _ b hbl).trans hb, Ft, hs, hD⟩)
    refine (AnyZ.sorted_in laysSorted Fence.wide 5 trivial trivial trivial trivial rfl (by omega) (sorts_any _) (enters_of Try.func28 (by kernel_rfl) rfl) 62 #[.pointer (some ⟨w.heap.size, 0, none⟩)] trivial (enters_of Try.func62 (by kernel_rfl) rfl) _ _ (by rw [hsd]; unfold maxLen; omega) (by rw [hsd]; omega) _ hseq).mono ?_
    rintro e w' ⟨v, ss, rfl, hp, hrow, _, hb⟩
    have hl : ss.length = (M.map (·.k)).length := by rw [hp.length_eq, strKeys_datM]
    have hm : ss.mergeSort leB = M.map (·.k) := by rw [mergeSort_of_perm hp, strKeys_datM, sorted_keys hr]
    have hm2 : (ss.mergeSort fun x y => decide (x ≤ y)) = M.map (·.k) := hm
    rw [hm2, hl, hsz] at hrow
    rw [hsz] at hb
    exact ⟨⟨v, rfl, hrow⟩, hb⟩
  | none =>
    obtain rfl : M = [] := h.1 rfl
    have hseq : SeqGives Fence.wide 2 Try.prog 62 #[.pointer (some ⟨w.heap.size, 0, none⟩)] encStr (fun ss : List (List UInt8) => ss = []) 0 (w.alloc (.cells #[.map none] 73)) :=
      AnyZ.keys_gives_nil (ρ := laysKeys_ren) { laysKeys with } Fence.wide _ trivial rfl w.heap.size _ (by simp) (by simp)
    refine (AnyZ.sorted_in laysSorted Fence.wide 5 trivial trivial trivial trivial rfl (by omega) (sorts_any _) (enters_of Try.func28 (by kernel_rfl) rfl) 62 #[.pointer (some ⟨w.heap.size, 0, none⟩)] trivial (enters_of Try.func62 (by kernel_rfl) rfl) _ 0 (Nat.zero_le _) (by omega) _ hseq).mono ?_
    rintro e w' ⟨v, ss, rfl, rfl, hrow, _, hb⟩
    rw [hsz] at hb hrow
    simp only [List.mergeSort_nil, List.map_nil] at hrow
    exact ⟨⟨v, rfl, hrow⟩, hb⟩

/-! ### slices.Backward -/
/-- What is known of a key that is handed over: it is the next one from the end. -/
def GK (ks : List (List UInt8)) (pre : List (Int × List UInt8)) (x : Int × List UInt8) (_ _ : World) : Prop := pre.length < ks.length ∧ ks[ks.length - 1 - pre.length]? = some x.2
/-- What a round must leave: the blocks of S that are there. -/
structure KpS (S : Nat → Prop) (W W' : World) : Prop where
  size : W.heap.size ≤ W'.heap.size
  block : ∀ j o, S j → W.heap[j]? = some o → W'.heap[j]? = some o
theorem KpS.refl (S : Nat → Prop) (W : World) : KpS S W W := ⟨Nat.le_refl _, fun _ _ _ h => h⟩
theorem kpS_t {S : Nat → Prop} {A B C : World} (h : KpS S A B) (k : KpS S B C) : KpS S A C := ⟨Nat.le_trans h.size k.size, fun j o hs hj => k.block j o hs (h.block j o hs hj)⟩
theorem kpS_b {S : Nat → Prop} {B : Nat} (hS : ∀ j, S j → j < B) (W : World) (l : Nat) (o o' : Obj) (hl : B ≤ l) (_ : W.heap[l]? = some o) (_ : o.isCells = false) : KpS S W (W.putObj l o') :=
  ⟨by simp, fun j oj hs hj => (World.putObj_heap_other (fun e => by have := hS j hs; omega)).trans hj⟩
theorem kpS_a {S : Nat → Prop} (W : World) (o : Obj) : KpS S W (W.alloc o) := ⟨by simp, fun j oj _ hj => (Below.heap_alloc _ _ _ (Array.getElem?_eq_some_iff.1 hj).1).trans hj⟩
/-- The blocks of the list and of its box. -/
def SB (Bq : Nat) (a : Option Addr) (j : Nat) : Prop := j = Bq ∨ a = some ⟨j, 0, none⟩

set_option maxRecDepth 100000 in
set_option maxHeartbeats 400000 in
theorem backward_any (a : Option Addr) (n cap : Nat) (w : World) : Calls Try.prog 38 #[.slice a n cap] w fun e w' => e = .returned (.func (.func 60) #[] #[.pointer (some ⟨w.heap.size, 0, none⟩)]) ∧ w' = w.alloc (.cells #[.slice a n cap] 57) := by
  have hmf : ∀ (fn : Fn) (first cap : Array Value) (w : World), (Instr.makeFunc fn first cap).run Try.prog w = .ok (.func fn first cap) w := fun _ _ _ _ => rfl
  go_enter Try.func38, Try.ntmps38
  go_wp2
  go_ret
  exact ⟨rfl, rfl⟩

set_option maxRecDepth 100000 in
set_option maxHeartbeats 2000000 in
theorem walkB_any (n l Bq : Nat) (a : Option Addr) (cap : Nat) (ks : List (List UInt8)) (W : World) (hBq : W.heap[Bq]? = some (.cells #[.slice a ks.length cap] 57 (0, 0))) (hr : RowK W a ks) (hn : 1 ≤ n) (hl : ks.length ≤ 4000000000000)
    (J Jx : List (Int × List UInt8) → World → Prop)
    (hY : ∀ pre x X W1, J pre X → Below X.heap.size X W1 → GK ks pre x X W1 → YieldAt Fence.wide (n - 1) Try.prog l #[.int .i64 x.1, encStr x.2] W1 fun e W' => (e = .returned (.bool true) ∧ J (pre ++ [x]) W' ∧ KpS (SB Bq a) W1 W') ∨ (e = .returned (.bool false) ∧ Jx (pre ++ [x]) W'))
    (hJ0 : J [] W) :
    CallsIn Fence.wide n Try.prog 60 #[.func (.yield l) #[] #[], .pointer (some ⟨Bq, 0, none⟩)] W fun e W' => (∃ v, e = .returned v) ∧
      ((∃ ys X, ys.length = ks.length ∧ J ys X ∧ Below X.heap.size X W') ∨ (∃ pre X, True ∧ Jx pre X ∧ Below X.heap.size X W')) := by
  obtain ⟨N, hN⟩ : ∃ N, N = ks.length := ⟨_, rfl⟩
  rw [← hN] at hBq hl ⊢
  have HN := hide_it hN
  have HB := hide_it hBq
  have HR := hide_it hr
  have c0 : W.cell? ⟨Bq, 0, none⟩ = some (.slice a N cap) := cell_of_row _ _ _ _ _ _ hBq
  have hw0 : IntKind.i64.wrap ((N : Int) - 1) = (N : Int) - 1 := i64_in (by omega) (by omega)
  clear hN hr hBq
  refine callsIn_of_wp Try.func60 rfl trivial ?_ rfl
  simp only [Try.ntmps60, List.size_toArray, List.length_cons, List.length_nil, Nat.reduceAdd, Nat.reduceSub, Array.replicate_succ, Array.replicate_zero, List.push_toArray, List.append_toArray, List.nil_append, List.cons_append]
  gi_wp2
  gi_loopw [3] (fun i wr => ∃ I : Nat, I ≤ N ∧ i = .int .i64 ((I : Int) - 1) ∧ Hid (∃ pre, pre.length = N - I ∧ J pre wr) ∧ Hid (wr.heap[Bq]? = some (.cells #[.slice a N cap] 57 (0, 0))) ∧ Hid (RowK wr a ks)) (fun i _ => (intOf i + 1).toNat)
  case atStart => exact ⟨N, by omega, rfl, hide_it ⟨[], by simp, hJ0⟩, HB, HR⟩
  case round =>
    clear HR HB hJ0 c0
    obtain ⟨I, hI, rfl, HJ, HB, HR⟩ := hrel
    have c0 : wr.cell? ⟨Bq, 0, none⟩ = some (.slice a N cap) := cell_of_row _ _ _ _ _ _ HB.out
    by_cases hI0 : I = 0
    · subst hI0
      rw [show ((0 : Nat) : Int) - 1 = -1 by rfl] at *
      gi_wp2
      go_end0
      obtain ⟨pre, hp, hJ⟩ := HJ.out
      exact ⟨⟨_, rfl⟩, .inl ⟨_, _, by omega, hJ, Below.refl _ _⟩⟩
    · obtain ⟨q, rfl⟩ : ∃ q, I = q + 1 := ⟨I - 1, by omega⟩
      rw [show ((q + 1 : Nat) : Int) - 1 = (q : Int) by omega]
      have hq0 : (q : Int) ≥ 0 := by omega
      have hqi : (q : Int) < (N : Int) := by omega
      have hqx : q < ks.length := by have := HN.out; omega
      have hwq : IntKind.i64.wrap ((q : Int) - 1) = (q : Int) - 1 := i64_in (by omega) (by omega)
      obtain ⟨x, hx⟩ : ∃ x, ks[q]? = some x := ⟨_, List.getElem?_eq_getElem hqx⟩
      obtain ⟨g, cur, rfl, hg, hc⟩ : ∃ (g : Nat) (cur : Array Value), a = some ⟨g, 0, none⟩ ∧ wr.heap[g]? = some (.cells cur 9 (0, 0)) ∧ ∀ (i : Nat) (x : List UInt8), ks[i]? = some x → cur[i]? = some (encStr x) := by
        rcases HR.out with h0 | h0
        · omega
        · exact h0
      have d0 : wr.cell? ⟨g, q, none⟩ = some (encStr x) := (cell_of_row _ _ _ _ _ _ hg).trans (hc q x hx)
      obtain ⟨pre, hp, hJ⟩ := HJ.out
      have hgk : GK ks pre ((q : Int), x) wr wr := ⟨by rw [hp, ← HN.out]; omega, by rw [hp, ← HN.out, show N - 1 - (N - (q + 1)) = q by omega]; exact hx⟩
      obtain ⟨fn, tmps, assign, body, hy, hRn⟩ := hY pre ((q : Int), x) wr wr hJ (Below.refl _ _) hgk
      have HP : Hid ((pre ++ [((q : Int), x)]).length = N - q) := by rw [List.length_append, hp]; simp; exact hide_it (by omega)
      have HG := hide_it hg
      unfold encStr at hy d0
      clear hgk hJ hp hc hg hx HJ hqx
      gi_wp2
      refine hRn.mono ?_
      rintro e2 W3 (⟨rfl, hJ3, hk3⟩ | ⟨rfl, hJx3⟩)
      · have HJ3 := hide_it hJ3
        have HB3 := hide_it (hk3.block Bq _ (.inl rfl) HB.out)
        have HR3 := hide_it (HR.out.keep fun g' o e hh => hk3.block g' o (.inr e) hh)
        clear hJ3 hk3
        gi_wp2
        go_roundw
        case rel => exact ⟨q, by omega, rfl, hide_it ⟨_, HP.out, HJ3.out⟩, HB3, HR3⟩
        case measure => simp [intOf]
      · have HJ3 := hide_it hJx3
        clear hJx3
        gi_wp2
        refine bodyPost_ret (results_none rfl _ _ _) rfl ?_
        exact ⟨⟨_, rfl⟩, .inr ⟨_, W3, trivial, HJ3.out, Below.refl _ _⟩⟩

theorem tellsB (n Bq : Nat) (a : Option Addr) (cap : Nat) (ks : List (List UInt8)) (w : World) (hBq : w.heap[Bq]? = some (.cells #[.slice a ks.length cap] 57 (0, 0))) (hr : RowK w a ks) (hn : 1 ≤ n) (hl : ks.length ≤ 4000000000000) :
    Tells Fence.wide n Try.prog 60 #[.pointer (some ⟨Bq, 0, none⟩)] (fun x : Int × List UInt8 => #[.int .i64 x.1, encStr x.2]) (GK ks) (KpS (SB Bq a)) (fun ys => ys.length = ks.length) (fun _ => True) w := fun l J Jx W hW hY h0 =>
  walkB_any n l Bq a cap ks W ((hW.block Bq (Array.getElem?_eq_some_iff.1 hBq).1).trans hBq) (hr.keep fun g _o _ hh => (hW.block g (Array.getElem?_eq_some_iff.1 hh).1).trans hh) hn hl J Jx hY h0

end Go.Proofs.Ythaknohnccmfoaa
