/- How much scripts hold together. -/
import Derived.Test.YtdodnegdpdhbiaaOpenCal
import Derived.Test.YtdodnegdpdhbiaaDk8
namespace Go.Proofs.Ytdodnegdpdhbiaa
open Go.RowKit

/-- How much the first k steps hold. -/
def tot (A : Nat → Cal) : Nat → Nat
  | 0 => 0
  | k + 1 => tot A k + (1 + (A k).p.p.length)
theorem tot_mono (A : Nat → Cal) {k n : Nat} (h : k ≤ n) : tot A k ≤ tot A n := by
  induction h with
  | refl => exact Nat.le_refl _
  | step _ ih => exact Nat.le_trans ih (by simp only [tot]; omega)
/-- A script: where, how long, its room, its steps. -/
structure Scr where
  a : Option Addr
  n : Nat
  c : Nat
  A : Nat → Cal
/-- How much the first m scripts hold. -/
def ttl (S : Nat → Scr) : Nat → Nat
  | 0 => 0
  | m + 1 => ttl S m + tot (S m).A (S m).n
theorem ttl_mono (S : Nat → Scr) {k n : Nat} (h : k ≤ n) : ttl S k ≤ ttl S n := by
  induction h with
  | refl => exact Nat.le_refl _
  | step _ ih => exact Nat.le_trans ih (by simp only [ttl]; omega)
/-- What 'vast' answers. -/
def Vast (T : Nat) (e : Ending) : Prop := ∃ b, e = .returned (.bool b) ∧ (b = false → T ≤ 1073741824)

set_option maxRecDepth 100000 in
set_option maxHeartbeats 1600000 in
theorem vast_any (q m cap : Nat) (S : Nat → Scr) (w : World) (hm : m ≤ 1000) (hq : q < w.heap.size) (hc : ∀ i, i < m → w.cell? ⟨q, i, none⟩ = some (.slice (S i).a (S i).n (S i).c)) (hs : ∀ i, i < m → CameCal w (S i).a (S i).n (S i).A) :
    Calls Try.prog 17 #[.slice (some ⟨q, 0, none⟩) m cap] w fun e w' => Vast (ttl S m) e ∧ Below w.heap.size w w' := by
  go_enter Try.func17, Try.ntmps17
  go_wp2
  go_loopw [3, 10] (fun x i wr => ∃ j : Nat, j ≤ m ∧ i = .int .i64 (j : Int) ∧ x = .int .i64 ((ttl S j : Nat) : Int) ∧ ttl S j ≤ 1073741824 ∧ Below w.heap.size w wr) (fun _ i _ => m - (intOf i).toNat)
  case atStart => exact ⟨0, by omega, rfl, rfl, by simp [ttl], Below.refl _ _⟩
  case round =>
    obtain ⟨j, hj, rfl, rfl, ht, hbl⟩ := hrel
    by_cases hlt : j < m
    · have hcj := (hbl.cell (p := ⟨q, j, none⟩) hq).trans (hc j hlt)
      have hsj := hs j hlt
      have HT := hide_it (show ttl S (j + 1) = ttl S j + tot (S j).A (S j).n from rfl)
      obtain ⟨T, hT⟩ : ∃ T, T = ttl S j := ⟨_, rfl⟩
      rw [← hT] at ht HT
      rw [← hT]
      obtain ⟨sc, hsc⟩ : ∃ sc, sc = S j := ⟨_, rfl⟩
      rw [← hsc] at hcj hsj HT
      clear hsc
      obtain ⟨a, n, c, A⟩ := sc
      simp only at hcj hsj HT
      have hn := hsj.size
      have hji : (j : Int) < (m : Int) := by omega
      clear hT hc hs
      go_wp2
      go_loopw [3, 16] (fun x i wr => ∃ k : Nat, k ≤ n ∧ i = .int .i64 (k : Int) ∧ x = .int .i64 ((T + tot A k : Nat) : Int) ∧ T + tot A k ≤ 1073741824 ∧ Below w.heap.size w wr) (fun _ i _ => n - (intOf i).toNat)
      case atStart => exact ⟨0, by omega, rfl, by simp [tot], by simp [tot]; omega, hbl⟩
      case round =>
        obtain ⟨k, hk, rfl, rfl, htk, hbk⟩ := hrel
        clear hbl ht
        by_cases hltk : k < n
        · have hi1 : (k : Int) < (n : Int) := by omega
          obtain ⟨b, o, rfl, hbb, d1, d2, d3, d4, d5, d6⟩ := hsj.row.here hltk
          have hpl := (hsj.each k hltk).p.size
          have c1 := (hbk.cell (p := ⟨b, o + k * 6, none⟩) hbb).trans d1
          have c2 := (hbk.cell (p := ⟨b, o + k * 6 + 1, none⟩) hbb).trans d2
          have c3 := (hbk.cell (p := ⟨b, o + k * 6 + 2, none⟩) hbb).trans d3
          have c4 := (hbk.cell (p := ⟨b, o + k * 6 + 3, none⟩) hbb).trans d4
          have c5 := (hbk.cell (p := ⟨b, o + k * 6 + 4, none⟩) hbb).trans d5
          have c6 := (hbk.cell (p := ⟨b, o + k * 6 + 5, none⟩) hbb).trans d6
          have HK := hide_it (show T + tot A (k + 1) = T + tot A k + (1 + (A k).p.p.length) by simp only [tot]; omega)
          obtain ⟨L, hL⟩ : ∃ L, L = (A k).p.p.length := ⟨_, rfl⟩
          obtain ⟨U, hU⟩ : ∃ U, U = T + tot A k := ⟨_, rfl⟩
          rw [← hL] at c5 hpl HK
          rw [← hU] at htk HK
          rw [← hU]
          have hba : ∀ o, Below w.heap.size w (wr.alloc o) := fun o => hbk.alloc hbk.size o
          clear hL hU hsj d1 d2 d3 d4 d5 d6 hcj
          by_cases hbig : U + (1 + L) ≤ 1073741824
          · have hd2 : ¬ (1073741824 : Int) < (U : Int) + (1 + (L : Int)) := by omega
            go_wp2
            go_roundw
            case rel => exact ⟨k + 1, by omega, by go_num, by rw [HK.out]; go_num, by rw [HK.out]; exact hbig, hba _⟩
            case measure => simp [intOf]; omega
          · have hd2 : (1073741824 : Int) < (U : Int) + (1 + (L : Int)) := by omega
            go_wp2
            go_ret
            exact ⟨⟨true, rfl, fun h => by cases h⟩, hba _⟩
        · have hkn : k = n := by omega
          subst hkn
          go_wp2
          go_roundw
          case rel => exact ⟨j + 1, by omega, by go_num, by rw [HT.out], by rw [HT.out]; exact htk, hbk⟩
          case measure => simp [intOf]; omega
    · have hjm : j = m := by omega
      subst hjm
      go_wp2
      go_ret
      exact ⟨⟨false, rfl, fun _ => ht⟩, hbl⟩

end Go.Proofs.Ytdodnegdpdhbiaa
