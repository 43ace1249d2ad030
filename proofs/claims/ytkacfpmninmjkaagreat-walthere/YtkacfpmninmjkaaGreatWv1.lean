/- How much packs hold: vast. -/
import Derived.Test.YtkacfpmninmjkaaGreatWx3
import Derived.Test.YtkacfpmninmjkaaGreatOpenPk
namespace Go.Proofs.YtkacfpmninmjkaaGreat
open Go.RowKit

/-- How many entries the first k packs hold. -/
def cntP (A : Nat → Pk) : Nat → Nat
  | 0 => 0
  | k + 1 => cntP A k + (A k).n
theorem cntP_mono (A : Nat → Pk) {k n : Nat} (h : k ≤ n) : cntP A k ≤ cntP A n := by
  induction n with
  | zero => have : k = 0 := by omega
            subst this; exact Nat.le_refl _
  | succ n ih =>
    by_cases hk : k = n + 1
    · subst hk; exact Nat.le_refl _
    · have := ih (by omega)
      show _ ≤ cntP A n + (A n).n
      omega

set_option maxRecDepth 100000 in
set_option maxHeartbeats 1600000 in
theorem vastW_any (a : Option Addr) (n c : Nat) (A : Nat → Pk) (w : World) (h : CamePk w a n A) :
    Calls Tryz.prog 19 #[.slice a n c] w fun e w' => (∃ b, e = .returned (.bool b) ∧ (b = false → cntP A n ≤ 1073741824)) ∧ Below w.heap.size w w' := by
  have HC := hide_it h
  have hn := h.size
  clear h
  go_enter Tryz.func19, Tryz.ntmps19
  go_wp2_with fail
  go_loopw [3, 10] (fun mv iv wr => ∃ k m : Nat, k ≤ n ∧ iv = .int .i64 (k : Int) ∧ mv = .int .i64 (m : Int) ∧ Hid (m ≤ 1073741824 + k ∧ cntP A k ≤ m ∧ cntP A k ≤ 1073741824) ∧ Below w.heap.size w wr) (fun _ iv _ => n - (intOf iv).toNat)
  case atStart => exact ⟨0, 0, Nat.zero_le _, rfl, rfl, ⟨by omega, Nat.le_refl _, Nat.zero_le _⟩, Below.refl _ _⟩
  case round =>
    obtain ⟨k, m, hk, rfl, rfl, HM, hbw⟩ := hrel
    by_cases hlt : k < n
    · have hd : decide ((k : Int) < (n : Int)) = true := by simp; omega
      obtain ⟨b1, o1, rfl, hbl, hcl⟩ : ∃ b o, a = some ⟨b, o, none⟩ ∧ b < w.heap.size ∧ ∀ i, i < n → w.cell? ⟨b, o + i, none⟩ = some (.slice (A i).a (A i).n (A i).c) := by
        rcases HC.out.row with h0 | h0
        · omega
        · exact h0
      have d0 := (hbw.cell (p := ⟨b1, o1 + k, none⟩) hbl).trans (hcl k hlt)
      have hE := hide_it (HC.out.each k hlt)
      have hs1 := HM.out
      have hes := hE.out.size
      have hw1 : IntKind.i64.wrap ((m : Int) + 1) = ((m + 1 : Nat) : Int) := by simp only [IntKind.wrap, IntKind.bits, IntKind.signed]; simp; omega
      have hks : cntP A (k + 1) = cntP A k + (A k).n := rfl
      replace hks := hide_it hks
      clear hcl
      generalize hX : A k = X at *
      go_wp2_with fail
      go_loopw [3, 18] (fun mv jv wr2 => ∃ j m2 : Nat, j ≤ X.n ∧ jv = .int .i64 (j : Int) ∧ mv = .int .i64 (m2 : Int) ∧ Hid (m2 ≤ 1073741824 + (k + 1) ∧ cntP A k + j ≤ m2 ∧ cntP A k + j ≤ 1073741824) ∧ Below w.heap.size w wr2) (fun _ jv _ => X.n - (intOf jv).toNat)
      case atStart => exact ⟨0, m + 1, Nat.zero_le _, rfl, by first | rfl | simp, ⟨by omega, by omega, by omega⟩, hbw⟩
      case round =>
        obtain ⟨j, m2, hj, rfl, rfl, HM2, hbw2⟩ := hrel
        by_cases hlt2 : j < X.n
        · have hd2 : decide ((j : Int) < (X.n : Int)) = true := by simp; omega
          obtain ⟨b2, o2, hXa, hbl2, e0, e1, e2, e3, e4, e5⟩ := hE.out.row.here hlt2
          have hok := hE.out.each j hlt2
          have hk1 := hok.key
          have hv1 := hok.val.size
          generalize hY : X.A j = y at *
          have g0 := (hbw2.cell (p := ⟨b2, o2 + j * 6, none⟩) hbl2).trans e0
          have g1 := (hbw2.cell (p := ⟨b2, o2 + j * 6 + 1, none⟩) hbl2).trans e1
          have g2 := (hbw2.cell (p := ⟨b2, o2 + j * 6 + 2, none⟩) hbl2).trans e2
          have g3 := (hbw2.cell (p := ⟨b2, o2 + j * 6 + 3, none⟩) hbl2).trans e3
          have g4 := (hbw2.cell (p := ⟨b2, o2 + j * 6 + 4, none⟩) hbl2).trans e4
          have g5 := (hbw2.cell (p := ⟨b2, o2 + j * 6 + 5, none⟩) hbl2).trans e5
          have hs2 := HM2.out
          have hsz := hbw2.size
          have hbx := boxE_below wr y.en y.val.a y.val.c
          have hb3 := hide_it (hbw2.trans (hbx.mono hsz))
          obtain ⟨M, hM⟩ : ∃ M, M = m2 + (1 + y.key.size + y.val.p.length) := ⟨_, rfl⟩
          have hM2 : m2 + 1 ≤ M := by omega
          have hMi : (m2 : Int) + (1 + (y.key.size : Int) + (y.val.p.length : Int)) = (M : Int) := by rw [hM]; simp
          replace hM := hide_it hM
          rw [hXa]
          clear e0 e1 e2 e3 e4 e5 hXa hok
          by_cases hbig : 1073741824 < M
          · have hd3 : decide ((1073741824 : Int) < (M : Int)) = true := by simp; omega
            go_wp2_with fail
            go_ret
            exact ⟨⟨true, rfl, fun e => by cases e⟩, hb3.out⟩
          · have hd3 : decide ((1073741824 : Int) < (M : Int)) = false := by simp; omega
            go_wp2_with fail
            go_roundw
            case rel => exact ⟨j + 1, M, by omega, by go_num, rfl, ⟨by omega, by omega, by omega⟩, hb3.out⟩
            case measure => simp [intOf]; omega
        · have hd2 : decide ((j : Int) < (X.n : Int)) = false := by simp; omega
          have hjn : j = X.n := by omega
          have hs2 := HM2.out
          go_wp2_with fail
          go_roundw
          case rel => exact ⟨k + 1, m2, by omega, by go_num, rfl, ⟨by omega, by rw [hks.out]; omega, by rw [hks.out]; omega⟩, hbw2⟩
          case measure => simp [intOf]; omega
    · have hd : decide ((k : Int) < (n : Int)) = false := by simp; omega
      have hkn : k = n := by omega
      subst hkn
      have hs1 := HM.out
      go_wp2_with fail
      go_ret
      exact ⟨⟨false, rfl, fun _ => hs1.2.2⟩, hbw⟩
end Go.Proofs.YtkacfpmninmjkaaGreat
