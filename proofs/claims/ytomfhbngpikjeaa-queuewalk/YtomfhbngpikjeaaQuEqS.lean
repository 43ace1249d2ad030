/- slices.Equal of texts. -/
import Derived.Test.YtomfhbngpikjeaaQuRowS
namespace Go.Proofs.Ytomfhbngpikjeaa
open Go.RowKit

set_option maxRecDepth 100000 in
set_option maxHeartbeats 1000000 in
theorem equalS_any (a c : Option Addr) (k1 k2 : Nat) (xs ys : List ByteArray) (w : World) (h1 : RwS w a xs) (h2 : RwS w c ys) (hl : xs.length ≤ 4611686018427387904) :
    Calls Try.prog 17 #[.slice a xs.length k1, .slice c ys.length k2] w fun e w' => e = .returned (.bool (decide (xs = ys))) ∧ Below w.heap.size w w' := by
  by_cases hlen : xs.length = ys.length
  · rw [← hlen]
    obtain ⟨N, hN⟩ : ∃ N, N = xs.length := ⟨_, rfl⟩
    rw [← hN]
    have HN := hide_it hN
    have HL := hide_it hlen
    have hNl : N ≤ 4611686018427387904 := by omega
    clear hN hlen hl
    go_enter Try.func17, Try.ntmps17
    go_wp2
    go_loopw [13] (fun i wr => ∃ k : Nat, k ≤ N ∧ i = .int .i64 k ∧ Hid (∀ i, i < k → xs[i]? = ys[i]?) ∧ Below w.heap.size w wr) (fun i _ => N - (intOf i).toNat)
    case atStart => exact ⟨0, Nat.zero_le _, rfl, fun i hi => by omega, Below.refl _ _⟩
    case round =>
      obtain ⟨k, hk, rfl, HE, hbl⟩ := hrel
      by_cases hlt : k < N
      · have hki : (k : Int) < (N : Int) := by omega
        have hx : k < xs.length := by have := HN.out; omega
        have hy : k < ys.length := by have := HN.out; have := HL.out; omega
        obtain ⟨b1, o1, rfl, l1, d1⟩ := h1.here hx
        obtain ⟨b2, o2, rfl, l2, d2⟩ := h2.here hy
        have e1 := (hbl.cell (p := ⟨b1, o1 + k, none⟩) l1).trans (d1 k hx)
        have e2 := (hbl.cell (p := ⟨b2, o2 + k, none⟩) l2).trans (d2 k hy)
        have hw1 : IntKind.i64.wrap ((k : Int) + 1) = (k : Int) + 1 := i64_in (by omega) (by omega)
        obtain ⟨X, hX⟩ : ∃ X, X = xs[k] := ⟨_, rfl⟩
        obtain ⟨Y, hY⟩ : ∃ Y, Y = ys[k] := ⟨_, rfl⟩
        rw [← hX] at e1
        rw [← hY] at e2
        have HX := hide_it hX
        have HY := hide_it hY
        clear hX hY d1 d2 h1 h2
        by_cases hxy : X = Y
        · subst hxy
          have hd : (X.toList == X.toList) = true := by rw [text_eq]; simp
          go_wp2
          go_quiet (fail)
          go_wp2
          go_roundw
          case rel =>
            refine ⟨k + 1, by omega, by go_num, fun i hi => ?_, below_drewN hbl _⟩
            by_cases e : i = k
            · subst e; rw [List.getElem?_eq_getElem hx, List.getElem?_eq_getElem hy, ← HX.out, ← HY.out]
            · exact HE.out i (by omega)
          case measure => simp [intOf]; omega
        · have hd : (X.toList == Y.toList) = false := by rw [text_eq]; simpa using hxy
          go_wp2
          go_quiet (fail)
          go_wp2
          go_ret
          refine ⟨?_, below_drewN hbl _⟩
          have hne : decide (xs = ys) = false := decide_eq_false (fun e => hxy (by rw [HX.out, HY.out]; simp [e]))
          rw [hne]
          rfl
      · go_wp2
        go_ret
        refine ⟨?_, hbl⟩
        have he : decide (xs = ys) = true := decide_eq_true (List.ext_getElem? fun i => by
          by_cases hi : i < k
          · exact HE.out i hi
          · have := HN.out; have := HL.out
            rw [List.getElem?_eq_none (by omega), List.getElem?_eq_none (by omega)])
        rw [he]
        rfl
  · have hne : ¬ (xs.length : Int) = (ys.length : Int) := by omega
    have he : decide (xs = ys) = false := decide_eq_false (fun e => hlen (by rw [e]))
    rw [he]
    clear h1 h2 he
    go_enter Try.func17, Try.ntmps17
    go_wp2
    go_ret
    exact ⟨rfl, Below.refl _ _⟩

end Go.Proofs.Ytomfhbngpikjeaa
