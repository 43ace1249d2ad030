/- A queue of texts: All, and the walk that it answers. -/
import Derived.Test.YtomfhbngpikjeaaQu3S
import Derived.Test.YtomfhbngpikjeaaQuIt
namespace Go.Proofs.Ytomfhbngpikjeaa
open Go.RowKit Go.Shelf

attribute [local go_sem] Oper.semAt_some

/-- The things with their numbers. -/
def numS (xs : List ByteArray) (j : Nat) : Nat × ByteArray := (j, xs[j]?.getD ByteArray.empty)

set_option maxRecDepth 100000 in
set_option maxHeartbeats 400000 in
theorem allS_any (q : Option Addr) (w : World) :
    Calls Try.prog 18 #[.pointer q] w fun e w' => e = .returned (.func (.func 33) #[] #[.pointer (some ⟨w.heap.size, 0, none⟩)]) ∧ w' = w.alloc (.cells #[.pointer q] 27) := by
  have hmf : ∀ (fn : Fn) (first cap : Array Value) (w : World), (Instr.makeFunc fn first cap).run Try.prog w = .ok (.func fn first cap) w := fun _ _ _ _ => rfl
  go_enter Try.func18, Try.ntmps18
  go_wp2
  go_ret
  exact ⟨rfl, rfl⟩

set_option maxRecDepth 100000 in
set_option maxHeartbeats 2000000 in
theorem walkS_nil (n l Bq : Nat) (q : Option Addr) (W : World) (hl : Calls Try.prog 14 #[.pointer q] W fun e w'' => e = .returned (.int .i64 0) ∧ w'' = W) (hn : 1 ≤ n)
    (hBq : W.cell? ⟨Bq, 0, none⟩ = some (.pointer q)) :
    CallsIn Fence.wide n Try.prog 33 #[.func (.yield l) #[] #[], .pointer (some ⟨Bq, 0, none⟩)] W fun e W' => (∃ v, e = .returned v) ∧ W' = W := by
  refine callsIn_of_wp Try.func33 rfl trivial ?_ rfl
  simp only [Try.ntmps33, List.size_toArray, List.length_cons, List.length_nil, Nat.reduceAdd, Nat.reduceSub, Array.replicate_succ, Array.replicate_zero, List.push_toArray, List.append_toArray, List.nil_append, List.cons_append]
  gi_wp2_with (refine ⟨trivial, ?_⟩; gi_at_call 14; refine (callsIn_wide.2 hl).mono ?_; rintro e w' ⟨rfl, rfl⟩)
  refine bodyPost_ret (results_none rfl _ _ _) rfl ?_
  exact ⟨⟨_, rfl⟩, rfl⟩

set_option maxRecDepth 100000 in
set_option maxHeartbeats 2000000 in
theorem walkS_some (n l Bq b g most D : Nat) (p : Addr) (xs : List ByteArray) (W : World) (h : QuS W b g most xs) (h0 : xs ≠ []) (hn : 1 ≤ n) (hBq : W.cell? ⟨Bq, 0, none⟩ = some (.pointer (some ⟨b, 0, none⟩))) (_hBl : Bq < W.heap.size)
    (hD : D ≤ W.heap.size) (hp : p.block < W.heap.size) (hpo : ∀ k, ownAt W p = some k → k < W.heap.size) (J Jx : List (Nat × ByteArray) → World → Prop) (hJ : AbidesFrom W.heap.size J)
    (hY : ∀ pre x W1, J pre W1 → pre.length < xs.length → YieldAt Fence.wide (n - 1) Try.prog l #[.int .i64 (x.1 : Int), .string x.2] W1 fun e W' =>
      (e = .returned (.bool true) ∧ J (pre ++ [x]) W' ∧ KeepS D p W1 W') ∨ (e = .returned (.bool false) ∧ Jx (pre ++ [x]) W')) (hJ0 : J [] W) :
    CallsIn Fence.wide n Try.prog 33 #[.func (.yield l) #[] #[], .pointer (some ⟨Bq, 0, none⟩)] W fun e W' => (∃ v, e = .returned v) ∧
      ((∃ ys, ys = upTo (numS xs) xs.length ∧ J ys W') ∨ (∃ pre, (∃ k, k ≤ xs.length ∧ pre = upTo (numS xs) k) ∧ Jx pre W')) := by
  have hl := lenS_any b g most xs W h
  have hlen := h.len
  have hlt := h.lt
  obtain ⟨R, f, hr⟩ := h
  obtain ⟨v, _, _, c2, _, _⟩ := hr.cells
  have hli : ∀ W', Below W.heap.size W W' → Calls Try.prog 34 #[.pointer (some ⟨b, 0, none⟩), .int .i64 (xs.length : Int)] W' fun e w' => e = .returned (.slice (some ⟨W'.heap.size, 0, none⟩) xs.length xs.length) ∧
      w'.heap[W'.heap.size]? = some (.cells (xs.map encS).toArray 9 (0, 0)) ∧ Below W'.heap.size W' w' := fun W' hb =>
    (lineS_any b g most R f xs.length xs W' (hr.keep (hb.block _ hlt.1) (hb.block _ hlt.2)) (Nat.le_refl _) (by omega)).mono fun e w' ⟨h1, h2, h3⟩ => ⟨h1, by simpa using h2, h3⟩
  obtain ⟨N, hN⟩ : ∃ N, N = xs.length := ⟨_, rfl⟩
  have hN0 : ¬ (N : Int) = 0 := by
    cases xs with
    | nil => exact absurd rfl h0
    | cons x r => rw [hN]; simp; omega
  rw [← hN] at hl c2 hli
  have HN := hide_it hN
  clear hr hN
  refine callsIn_of_wp Try.func33 rfl trivial ?_ rfl
  simp only [Try.ntmps33, List.size_toArray, List.length_cons, List.length_nil, Nat.reduceAdd, Nat.reduceSub, Array.replicate_succ, Array.replicate_zero, List.push_toArray, List.append_toArray, List.nil_append, List.cons_append]
  gi_wp2_with (refine ⟨trivial, ?_⟩; gi_at_call 14; refine (callsIn_wide.2 hl).mono ?_; rintro e w' ⟨rfl, hq⟩; have hq2 := hq.symm; subst hq2; clear hq)
  gi_region_with (refine ⟨trivial, ?_⟩; gi_at_call 34; refine (callsIn_wide.2 (hli _ (Below.refl _ _).drew)).mono ?_; rintro e w1 ⟨rfl, hl1, hB1⟩)
  all_goals (
    have hl2 : w1.heap[W.heap.size]? = some (.cells (xs.map encS).toArray 9 (0, 0)) := hl1
    have hB2 : Below W.heap.size W w1 := (Below.refl _ _).drew.trans hB1
    have hJ1 : J [] w1 := hJ [] W w1 none hJ0 ⟨hB2.os, hB2.tape, hB2.output, hB2.size, fun k hk _ => hB2.block k hk⟩ (fun r e => by cases e)
    have hs1 : W.heap.size < w1.heap.size := (Array.getElem?_eq_some_iff.1 hl2).1
    have ho1 : ownAt w1 p ≠ some W.heap.size := fun e => by
      rw [ownAt_block (hB2.block _ hp)] at e
      exact absurd (hpo _ e) (Nat.lt_irrefl _)
    have HL := hide_it hl2
    have HO := hide_it ho1
    clear hl1 hB1 hB2 hl2 ho1 hl hli
    gi_wp2
    gi_loopw [15] (fun i wr => ∃ k : Nat, k ≤ N ∧ i = .int .i64 k ∧ J (upTo (numS xs) k) wr ∧ Hid (wr.heap[W.heap.size]? = some (.cells (xs.map encS).toArray 9 (0, 0))) ∧ Hid (ownAt wr p ≠ some W.heap.size)) (fun i _ => N - (intOf i).toNat)
    case atStart => exact ⟨0, Nat.zero_le _, rfl, hJ1, HL, HO⟩
    case round =>
      obtain ⟨k, hk, rfl, hJs, HLr, HOr⟩ := hrel
      clear HL HO
      by_cases hlt2 : k < N
      · have hkx : k < xs.length := by have := HN.out; omega
        obtain ⟨fn, tmps, assign, body, hy, hR⟩ := hY _ (numS xs k) wr hJs (by rw [upTo_length]; exact hkx)
        have hck : wr.cell? ⟨W.heap.size, k, none⟩ = some (.string (numS xs k).2) := by
          rw [cell_of_row _ _ _ _ _ _ HLr.out]
          simp [numS, hkx, encS]
        have hki : (k : Int) < (N : Int) := by omega
        have hw1 : IntKind.i64.wrap ((k : Int) + 1) = (k : Int) + 1 := i64_in (by omega) (by omega)
        generalize hX : (numS xs k).2 = X at hck hy
        have hX1 : (numS xs k).1 = k := rfl
        rw [hX1] at hy
        have HX := hide_it hX
        clear hX hX1
        gi_wp2
        refine hR.mono ?_
        rintro e W3 (⟨rfl, hJ3, hk3⟩ | ⟨rfl, hJx3⟩)
        · have HL3 := hide_it (hk3.kept _ _ _ _ hD HLr.out HOr.out)
          have HO3 := hide_it (show ownAt W3 p ≠ some W.heap.size from fun e => by
            rcases hk3.fresh _ e with e2 | e2
            · exact HOr.out e2
            · have := (Array.getElem?_eq_some_iff.1 HLr.out).1; omega)
          gi_wp2
          go_roundw
          case rel => exact ⟨k + 1, by omega, by go_num, by rw [upTo_succ]; exact hJ3, HL3, HO3⟩
          case measure => simp [intOf]; omega
        · gi_wp2
          refine bodyPost_ret (results_none rfl _ _ _) rfl ?_
          exact ⟨⟨_, rfl⟩, .inr ⟨_, ⟨k + 1, by omega, (upTo_succ _ _).symm⟩, hJx3⟩⟩
      · obtain rfl : k = N := by omega
        gi_wp2
        go_end0
        exact ⟨⟨_, rfl⟩, .inl ⟨_, by rw [HN.out], hJs⟩⟩)

end Go.Proofs.Ytomfhbngpikjeaa
