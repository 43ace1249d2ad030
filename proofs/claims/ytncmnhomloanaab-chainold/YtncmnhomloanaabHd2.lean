/- The document's chain: Prune, All. -/
import Derived.Test.YtncmnhomloanaabHd1
namespace Go.Proofs.Ytncmnhomloanaab
open Go.RowKit

theorem cut_small (xs : List Lk) {k g : Nat} (h : k ≤ g) : (xs.take k).drop g = [] := by
  apply List.drop_eq_nil_of_le; rw [List.length_take]; omega
theorem take_succ_lk {xs : List Lk} {k : Nat} (h : k < xs.length) : xs.take (k + 1) = xs.take k ++ [lk xs k] := by
  rw [List.take_succ_eq_append_getElem h, lk_get h]
theorem cut_succ {xs : List Lk} {k g : Nat} (h : g ≤ k) (hk : k < xs.length) : (xs.take (k + 1)).drop g = (xs.take k).drop g ++ [lk xs k] := by
  rw [take_succ_lk hk, List.drop_append_of_le_length (by rw [List.length_take]; omega)]
theorem cut_len {xs : List Lk} {k g : Nat} (hk : k ≤ xs.length) : ((xs.take k).drop g).length = k - g := by
  rw [List.length_drop, List.length_take]; omega

set_option maxRecDepth 100000 in
set_option maxHeartbeats 2000000 in
theorem rprune_any {w : World} {v : Value} {xs : List Lk} (h : OwD w v xs) (hg : Good xs) (hl : xs.length ≤ 4000000000000) (s : Int) :
    Calls Try.prog 31 #[v, .int .i64 s] w fun e w' => ∃ v', e = .returned (.tuple #[v', .int .i64 (pruN xs s : Int)]) ∧ DocTo w v (pruL xs s) v' w' := by
  have HD := hide_it h
  obtain ⟨a, cap, rfl, hrow, hcn, _, hnil, _⟩ := own_row h
  have hat := rat_any (cap := cap) hrow hg hl s
  obtain ⟨hu1, hu2⟩ := hg.up s
  have hle := upN_le xs s
  have hpn : pruN xs s = upN xs s - 1 := rfl
  have HR := hide_it hrow
  clear hrow h hnil
  by_cases hU : upN xs s = 0
  · have HE : Hid (pruN xs s = 0 ∧ pruL xs s = xs) := by
      have e : pruN xs s = 0 := by omega
      exact hide_it ⟨e, by unfold pruL; rw [e]; rfl⟩
    rw [hU, show ((0 : Nat) : Int) - 1 = -1 by rfl] at hat
    clear hu1 hu2 hle hpn hU hg
    go_enter Try.func31, Try.ntmps31
    go_wp2_with fail
    refine hat.mono ?_
    rintro e w1 ⟨rfl, hb1⟩
    have HB := hide_it hb1
    clear hat hb1
    go_wp2
    go_ret2
    exact ⟨_, by rw [HE.out.1] <;> rfl, by rw [HE.out.2]; exact OwnS.below HD.out HB.out, .inl rfl, HB.out⟩
  · obtain ⟨g, hgU⟩ : ∃ g, upN xs s = g + 1 := ⟨upN xs s - 1, by omega⟩
    have HE : Hid (pruN xs s = g ∧ pruL xs s = xs.drop g) := by
      have e : pruN xs s = g := by omega
      exact hide_it ⟨e, by unfold pruL; rw [e]⟩
    rw [hgU] at hu1 hu2 hle
    rw [hgU, show ((g + 1 : Nat) : Int) - 1 = (g : Int) by omega] at hat
    have hgn : ¬ (g : Int) < 0 := by omega
    obtain ⟨N, hN⟩ : ∃ N, N = xs.length := ⟨_, rfl⟩
    rw [← hN] at hat hle hl hu2 hcn ⊢
    have HN := hide_it hN
    have H1 := hide_it hu1
    have H2 := hide_it hu2
    clear hu1 hu2 hpn hU hg hgU hN
    go_enter Try.func31, Try.ntmps31
    go_wp2_with fail
    refine hat.mono ?_
    rintro e w1 ⟨rfl, hb1⟩
    have HB1 := hide_it hb1
    clear hat hb1
    go_wp2_with fail
    go_loopw [7, 8] (fun out i wr => ∃ k : Nat, k ≤ N ∧ i = .int .i64 (k : Int) ∧ Hid (OwnS wr w.heap.size 76 3 out ((xs.take k).drop g).length (celL ((xs.take k).drop g))) ∧ Hid (Below w.heap.size w wr)) (fun _ i _ => N - (intOf i).toNat)
    case atStart => exact ⟨0, by omega, rfl, hide_it (by rw [cut_small xs (Nat.zero_le _)]; exact OwnS.nil _ _ _ _), HB1⟩
    case round =>
      clear HB1
      obtain ⟨k, hk, rfl, HO, HB⟩ := hrel
      by_cases hlt : k < N
      · have hki : (k : Int) < (N : Int) := by omega
        have hw1 : IntKind.i64.wrap ((k : Int) + 1) = (k : Int) + 1 := i64_in (by omega) (by omega)
        have hkx : k < xs.length := by have := HN.out; omega
        obtain ⟨b, o, rfl, hb, d0, d1, d2⟩ := (HR.out.below HB.out).here hkx
        by_cases hkg : k < g
        · have e1 : ((k : Int) == (g : Int)) = false := by simp; omega
          have e2 : decide ((lk xs k).n > s) = false := decide_eq_false (by have := H1.out k (by omega); omega)
          have e3 : decide (s < (lk xs k).n) = false := e2
          have HO2 : Hid (OwnS wr w.heap.size 76 3 u7 ((xs.take (k + 1)).drop g).length (celL ((xs.take (k + 1)).drop g))) := by
            have := HO.out
            rw [cut_small xs (by omega)] at this ⊢
            exact hide_it this
          generalize (lk xs k).n = z at *
          clear HO
          go_wp2
          go_roundw
          case rel => exact ⟨k + 1, by omega, by go_num, HO2, HB⟩
          case measure => simp [intOf]; omega
        · have HL : Hid (((xs.take k).drop g).length = k - g) := hide_it (cut_len (by omega))
          have ho := HO.out
          rw [HL.out] at ho
          obtain ⟨a7, c7, ev7, hn7, hm7, _, _⟩ := ho.open
          have hb4 : Below wr.heap.size wr (wr.alloc (.cells #[.int .i64 (lk xs k).n, .string (lk xs k).v, .bool (lk xs k).d] 76)) := (Below.refl _ _).alloc (Nat.le_refl _) _
          have ho4 := ho.below hb4
          have hs4 := src_one (e' := 76) Try.underlying61 wr (lk xs k) 76
          have hin := ho.inside
          have HC : Hid ((xs.take (k + 1)).drop g = (xs.take k).drop g ++ [lk xs k]) := hide_it (cut_succ (by omega) hkx)
          have hstep : ∀ v' w', OwnS w' w.heap.size 76 3 v' (k - g + 1) (celL ((xs.take k).drop g) ++ triL (lk xs k)) → OwnS w' w.heap.size 76 3 v' ((xs.take (k + 1)).drop g).length (celL ((xs.take (k + 1)).drop g)) := fun v' w' h9 => by
            rw [HC.out, List.length_append, HL.out, celL_append, celL_one]; exact h9
          have HS := hide_it hstep
          have HB4 := hide_it hb4
          have H2k : Hid (k ≠ g → s < (lk xs k).n) := hide_it fun e => H2.out k (by omega) hlt
          have HI := hide_it hin
          have hz := HB.out.size
          generalize lk xs k = x at *
          generalize celL ((xs.take k).drop g) = Y at *
          clear HL HC ho hin hstep hb hn7 hm7 HO ev7 H2
          by_cases hkg2 : k = g
          all_goals
            first
              | have e1 : ((k : Int) == (g : Int)) = true := by simp; omega
              | (have e1 : ((k : Int) == (g : Int)) = false := by simp; omega)
            first
              | have e3 : decide (s < x.n) = true := decide_eq_true (H2k.out hkg2)
              | skip
            clear hkg2
            go_wp2_with (at_builtin; refine stopHere ?_)
            unfold Hid
            refine wpList_append_S rfl _ _ 61 61 rfl (.agg #[.int .i64 0, .string ⟨#[]⟩, .bool false]) Try.underlying61 infoD rfl rfl ho4 _ rfl 1 _ hs4 (by unfold maxLen; omega) (by omega) (by have := hb4.size; omega) ?_
            intro v5 w5 ho5 hg5 _
            have HO5 := hide_it (HS.out _ _ ho5)
            have HB5 : Hid (Below w.heap.size w w5) := hide_it ((HB.out.trans (HB4.out.mono hz)).grown hg5 (by simp; omega) (fun j e => (HI.out j e).1))
            clear ho5 hg5 ho4 hs4 hb4
            go_wp2
            go_roundw
            case rel => exact ⟨k + 1, by omega, by go_num, HO5, HB5⟩
            case measure => simp [intOf]; omega
      · obtain rfl : k = N := by omega
        have HL : Hid (xs.take k = xs) := hide_it (by rw [HN.out]; exact List.take_length)
        have ho := HO.out
        rw [HL.out] at ho
        have hlen : (xs.drop g).length = k - g := by rw [List.length_drop, HN.out]
        rw [hlen] at ho
        obtain ⟨a7, c7, rfl, _, _, _, _⟩ := ho.open
        have hw1 : IntKind.i64.wrap ((k : Int) - ((k - g : Nat) : Int)) = (g : Int) := by rw [i64_in (by omega) (by omega)]; omega
        have HO2 : Hid (OwD wr (.slice a7 (k - g) c7) (pruL xs s)) := by
          rw [HE.out.2]; unfold OwD; rw [hlen]; exact hide_it (ho.mono (Nat.zero_le _))
        have HI := hide_it ho.inside
        clear ho hlen HL
        generalize hkg : ((k - g : Nat) : Int) = KG at *
        go_wp2
        go_ret2
        exact ⟨_, by rw [HE.out.1] <;> rfl, HO2.out, .inr fun j hj => (HI.out j hj).1, HB.out⟩

end Go.Proofs.Ytncmnhomloanaab
