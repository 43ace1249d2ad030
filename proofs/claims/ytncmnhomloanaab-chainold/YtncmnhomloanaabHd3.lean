/- The document's chain: All. -/
import Derived.Test.YtncmnhomloanaabHd2
namespace Go.Proofs.Ytncmnhomloanaab
open Go.RowKit

theorem rev_len (xs : List Lk) {I : Nat} (hI : I ≤ xs.length) : (xs.reverse.take (xs.length - I)).length = xs.length - I := by
  rw [List.length_take, List.length_reverse]; omega
theorem rev_succ (xs : List Lk) {q : Nat} (hq : q < xs.length) : xs.reverse.take (xs.length - q) = xs.reverse.take (xs.length - (q + 1)) ++ [lk xs q] := by
  rw [show xs.length - q = (xs.length - (q + 1)) + 1 by omega, take_succ_lk (by rw [List.length_reverse]; omega), lk_rev (by omega)]
  congr 2; rw [show xs.length - 1 - (xs.length - (q + 1)) = q by omega]
theorem walk_all (xs : List Lk) {m : Int} (h : m < 0) : walkL xs m = xs.reverse.take xs.length := by
  unfold walkL; rw [if_pos h, List.take_of_length_le (by simp)]
theorem walk_some (xs : List Lk) {m : Int} (h : ¬ m < 0) : walkL xs m = xs.reverse.take m.toNat := by
  unfold walkL; rw [if_neg h]

set_option maxRecDepth 100000 in
set_option maxHeartbeats 2000000 in
theorem rall_any {w : World} {v : Value} {xs : List Lk} (h : OwD w v xs) (hl : xs.length ≤ 4000000000000) (m : Int) :
    Calls Try.prog 33 #[v, .int .i64 m] w fun e w' => (∃ v', e = .returned v' ∧ OwnS w' w.heap.size 76 3 v' (walkL xs m).length (celL (walkL xs m))) ∧ Below w.heap.size w w' := by
  obtain ⟨a, cap, rfl, hrow, hcn, _, _, _⟩ := own_row h
  have HR := hide_it hrow
  clear hrow h
  obtain ⟨N, hN⟩ : ∃ N, N = xs.length := ⟨_, rfl⟩
  have HN := hide_it hN
  rw [← hN] at hl hcn ⊢
  have hw0 : IntKind.i64.wrap ((N : Int) - 1) = (N : Int) - 1 := i64_in (by omega) (by omega)
  clear hN
  go_enter Try.func33, Try.ntmps33
  go_wp2_with fail
  go_loopw [5, 6] (fun out i wr => ∃ I : Nat, I ≤ N ∧ i = .int .i64 ((I : Int) - 1) ∧ (0 ≤ m → ((N - I : Nat) : Int) ≤ m) ∧ Hid (OwnS wr w.heap.size 76 3 out (N - I) (celL (xs.reverse.take (N - I)))) ∧ Hid (Below w.heap.size w wr)) (fun _ i _ => (intOf i + 1).toNat)
  case atStart => exact ⟨N, by omega, rfl, fun h => by omega, hide_it (by rw [Nat.sub_self]; exact OwnS.nil _ _ _ _), hide_it (Below.refl _ _)⟩
  case round =>
    obtain ⟨I, hI, rfl, hm, HO, HB⟩ := hrel
    -- how it ends
    have fin : ∀ (j : Nat) a5 c5, walkL xs m = xs.reverse.take j → j = N - I → OwnS wr w.heap.size 76 3 (.slice a5 j c5) j (celL (xs.reverse.take j)) → (∃ v', Ending.returned (.slice a5 j c5) = .returned v' ∧ OwnS wr w.heap.size 76 3 v' (walkL xs m).length (celL (walkL xs m))) ∧ Below w.heap.size w wr := fun j a5 c5 h1 h2 h3 => by
      refine ⟨⟨_, rfl, ?_⟩, HB.out⟩
      rw [h1]
      have : (xs.reverse.take j).length = j := by rw [h2, HN.out]; exact rev_len xs (by have := HN.out; omega)
      rw [this]; exact h3
    obtain ⟨a5, c5, ev5, hn5, _, _, _⟩ := HO.out.open
    subst ev5
    have FIN := hide_it fin
    clear fin
    by_cases hI0 : I = 0
    · subst hI0
      rw [show ((0 : Nat) : Int) - 1 = -1 by rfl] at *
      have HW : Hid (walkL xs m = xs.reverse.take (N - 0)) := by
        by_cases h0 : m < 0
        · rw [walk_all xs h0, HN.out, Nat.sub_zero]; exact hide_it rfl
        · have := hm (by omega)
          rw [walk_some xs h0]
          rw [Nat.sub_zero] at this ⊢
          refine hide_it ?_
          rw [List.take_of_length_le (by rw [List.length_reverse, ← HN.out]; omega), List.take_of_length_le (by rw [List.length_reverse, ← HN.out]; omega)]
      have HF := hide_it (FIN.out (N - 0) a5 c5 HW.out rfl HO.out)
      rw [Nat.sub_zero] at HF ⊢
      clear FIN HW HO hn5 hm
      go_wp2
      go_ret
      exact HF.out
    · obtain ⟨q, rfl⟩ : ∃ q, I = q + 1 := ⟨I - 1, by omega⟩
      rw [show ((q + 1 : Nat) : Int) - 1 = (q : Int) by omega]
      obtain ⟨M, hM⟩ : ∃ M, M = N - (q + 1) := ⟨_, rfl⟩
      rw [← hM] at hm HO hn5 FIN ⊢
      have hq0 : (q : Int) ≥ 0 := by omega
      have hqN : q < N := by omega
      by_cases hst : ¬ m < 0 ∧ m = (M : Int)
      · obtain ⟨h0, h1⟩ := hst
        have d0 : decide (m < 0) = false := decide_eq_false h0
        have d1 : decide ((M : Int) < m) = false := decide_eq_false (by omega)
        have HW : Hid (walkL xs m = xs.reverse.take M) := by
          rw [walk_some xs h0, h1]; exact hide_it rfl
        have HF := hide_it (FIN.out M a5 c5 HW.out rfl HO.out)
        clear FIN HW HO hn5 hm h1 hM h0
        go_wp2
        go_ret
        exact HF.out
      · have hqi : (q : Int) < (N : Int) := by omega
        have hqx : q < xs.length := by have := HN.out; omega
        have hwq : IntKind.i64.wrap ((q : Int) - 1) = (q : Int) - 1 := i64_in (by omega) (by omega)
        obtain ⟨b, o, rfl, hb, d0, d1, d2⟩ := (HR.out.below HB.out).here hqx
        have hs4 := src_one (e' := 76) Try.underlying61 wr (lk xs q) 76
        have hb4 : Below wr.heap.size wr (wr.alloc (.cells #[.int .i64 (lk xs q).n, .string (lk xs q).v, .bool (lk xs q).d] 76)) := (Below.refl _ _).alloc (Nat.le_refl _) _
        have ho4 := HO.out.below hb4
        have HI := hide_it HO.out.inside
        have HMq : Hid (N - q = M + 1) := hide_it (by omega)
        have hstep : ∀ v' w', OwnS w' w.heap.size 76 3 v' (M + 1) (celL (xs.reverse.take M) ++ triL (lk xs q)) → OwnS w' w.heap.size 76 3 v' (N - q) (celL (xs.reverse.take (N - q))) := fun v' w' h9 => by
          have e := rev_succ xs hqx
          rw [← HN.out] at e
          rw [e, celL_append, celL_one, HMq.out, ← hM]; exact h9
        have HS := hide_it hstep
        have HMm : Hid (0 ≤ m → ((N - q : Nat) : Int) ≤ m) := hide_it fun h => by have := hm h; omega
        have hz := HB.out.size
        have hMN : M ≤ N := by omega
        have dec : (decide (m < 0) = true) ∨ (decide (m < 0) = false ∧ decide ((M : Int) < m) = true) := by
          by_cases h0 : m < 0
          · exact .inl (decide_eq_true h0)
          · exact .inr ⟨decide_eq_false h0, decide_eq_true (by have := hm (by omega); omega)⟩
        generalize lk xs q = x at *
        generalize celL (xs.reverse.take M) = Y at *
        have HB4 := hide_it hb4
        clear hstep hb HO hn5 hm hM hst FIN
        rcases dec with e1 | ⟨e1, e2⟩
        all_goals
          go_wp2_with (at_builtin; refine stopHere ?_)
          unfold Hid
          refine wpList_append_S rfl _ _ 61 61 rfl (.agg #[.int .i64 0, .string ⟨#[]⟩, .bool false]) Try.underlying61 infoD rfl rfl ho4 _ rfl 1 _ hs4 (by unfold maxLen; omega) (by omega) (by have := hb4.size; omega) ?_
          intro v5 w5 ho5 hg5 _
          have HO5 := hide_it (HS.out _ _ ho5)
          have HB5 : Hid (Below w.heap.size w w5) := hide_it ((HB.out.trans (HB4.out.mono hz)).grown hg5 (by simp; omega) (fun j e => (HI.out j e).1))
          clear ho5 hg5 ho4 hs4 hb4
          go_wp2
          go_roundw
          case rel => exact ⟨q, by omega, rfl, HMm.out, HO5, HB5⟩
          case measure => simp [intOf]

end Go.Proofs.Ytncmnhomloanaab
