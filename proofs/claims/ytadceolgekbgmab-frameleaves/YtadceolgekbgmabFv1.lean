/- What the law on rows of frames asks first: are there too many bytes, is one too long? -/
import Derived.Test.YtadceolgekbgmabFh1
import Derived.Test.YtadceolgekbgmabFm4
import Derived.Test.YtadceolgekbgmabOpenP
namespace Go.Proofs.Ytadceolgekbgmab
open Go.RowKit

/-- The payloads. -/
def payP (n : Nat) (A : Nat → Pc) : List (List Nat) := (List.range n).map fun i => (A i).p
theorem payP_succ (n : Nat) (A : Nat → Pc) : payP (n + 1) A = payP n A ++ [(A n).p] := by simp [payP, List.range_succ]
theorem payP_at (n : Nat) (A : Nat → Pc) {i : Nat} (hi : i < n) : (payP n A)[i]? = some (A i).p := by
  unfold payP
  rw [List.getElem?_map, List.getElem?_range hi]; rfl
theorem payP_len (n : Nat) (A : Nat → Pc) : (payP n A).length = n := by simp [payP]
theorem payP_mono (A : Nat → Pc) {k n : Nat} (h : k ≤ n) : totP (payP k A) ≤ totP (payP n A) := by
  obtain ⟨m, rfl⟩ : ∃ m, n = k + m := ⟨n - k, by omega⟩
  induction m with
  | zero => simp
  | succ m ih =>
    have := ih (by omega)
    rw [← Nat.add_assoc, payP_succ, totP_snoc]
    omega

set_option maxRecDepth 100000 in
set_option maxHeartbeats 800000 in
theorem vast_any (a : Option Addr) (n cap : Nat) (A : Nat → Pc) (w : World) (hc : CameP w a n A) (b : Bool) (hb : b = decide (1073741824 < totP (payP n A))) :
    Calls Try.prog 14 #[.slice a n cap] w fun e w' => e = .returned (.bool b) ∧ w' = w := by
  have hns := hc.size
  have hbq := hide_it hb
  clear hb
  go_enter Try.func14, Try.ntmps14
  go_wp2
  go_loop [3, 8] (fun s i => ∃ k : Nat, k ≤ n ∧ i = .int .i64 (k : Int) ∧ s = .int .i64 ((totP (payP k A) : Nat) : Int) ∧ totP (payP k A) ≤ 1073741824) (fun _ i => n - (intOf i).toNat)
  case atStart => exact ⟨0, by omega, rfl, rfl, by simp [payP, totP]⟩
  case round =>
    obtain ⟨k, hk, rfl, rfl, hs⟩ := hrel
    by_cases hlt : k < n
    · have hki : (k : Int) < (n : Int) := by omega
      obtain ⟨b0, o0, rfl, hb0, hcell⟩ := hc.row.here hlt
      have hok := (hc.each k hlt).size
      have HS := hide_it (show totP (payP (k + 1) A) = totP (payP k A) + (1 + (A k).p.length) by rw [payP_succ, totP_snoc])
      have HM := hide_it (payP_mono A (show k + 1 ≤ n by omega))
      have hwr : IntKind.i64.wrap ((totP (payP k A) : Nat) + (1 + ((A k).p.length : Int))) = ((totP (payP (k + 1) A) : Nat) : Int) := by
        rw [HS.out]
        have h : ∀ z : Int, -9223372036854775808 ≤ z → z ≤ 9223372036854775807 → IntKind.i64.wrap z = z := fun z h1 h2 => i64_in h1 h2
        rw [h _ (by omega) (by omega)]; omega
      generalize hT : totP (payP k A) = T at *
      generalize hT2 : totP (payP (k + 1) A) = T2 at *
      generalize (A k).p.length = L at *
      by_cases hv : 1073741824 < T2
      · have hvi : (1073741824 : Int) < (T2 : Int) := by omega
        have hbt : Hid (b = true) := by
          show _ = _
          rw [hbq.out]; simp; have := HM.out; omega
        clear hT hT2
        go_wp2
        go_ret
        rw [hbt.out]; exact ⟨rfl, rfl⟩
      · have hvi : ¬ (1073741824 : Int) < (T2 : Int) := by omega
        have hT2' := hide_it hT2
        clear hT hT2
        go_wp2
        go_round
        case rel => exact ⟨k + 1, by omega, by go_num, by rw [hT2'.out], by rw [hT2'.out]; omega⟩
        case measure => simp [intOf]; omega
    · have hkn : k = n := by omega
      subst hkn
      have hbt : Hid (b = false) := by
        show _ = _
        rw [hbq.out]; simp; exact hs
      go_wp2
      go_ret
      rw [hbt.out]; exact ⟨rfl, rfl⟩

set_option maxRecDepth 100000 in
set_option maxHeartbeats 800000 in
theorem fits_any (a : Option Addr) (n cap : Nat) (A : Nat → Pc) (w : World) (hc : CameP w a n A) (b : Bool) (hb : b = true ↔ ∀ i, i < n → (A i).p.length ≤ 65536) :
    Calls Try.prog 15 #[.slice a n cap] w fun e w' => e = .returned (.bool b) ∧ w' = w := by
  have hns := hc.size
  have hbq := hide_it hb
  clear hb
  go_enter Try.func15, Try.ntmps15
  go_wp2
  go_loop [3] (fun i => ∃ k : Nat, k ≤ n ∧ i = .int .i64 (k : Int) ∧ Hid (∀ j, j < k → (A j).p.length ≤ 65536)) (fun i => n - (intOf i).toNat)
  case atStart => exact ⟨0, by omega, rfl, fun j hj => by omega⟩
  case round =>
    obtain ⟨k, hk, rfl, hto⟩ := hrel
    by_cases hlt : k < n
    · have hki : (k : Int) < (n : Int) := by omega
      obtain ⟨b0, o0, rfl, hb0, hcell⟩ := hc.row.here hlt
      have hok := (hc.each k hlt).size
      by_cases hv : 65536 < (A k).p.length
      · have hvi : (65536 : Int) < ((A k).p.length : Int) := by omega
        have hbt : Hid (b = false) := by
          show _ = _
          cases hbb : b with
          | false => rfl
          | true => have := hbq.out.1 hbb k hlt; omega
        generalize (A k).p.length = L at *
        go_wp2
        go_ret
        rw [hbt.out]; exact ⟨rfl, rfl⟩
      · have hvi : ¬ (65536 : Int) < ((A k).p.length : Int) := by omega
        have hto2 : Hid (∀ j, j < k + 1 → (A j).p.length ≤ 65536) := fun j hj => by
          by_cases e : j = k
          · subst e; omega
          · exact hto.out j (by omega)
        generalize (A k).p.length = L at *
        go_wp2
        go_round
        case rel => exact ⟨k + 1, by omega, by go_num, hto2⟩
        case measure => simp [intOf]; omega
    · have hkn : k = n := by omega
      subst hkn
      have hbt : Hid (b = true) := hbq.out.2 hto.out
      go_wp2
      go_ret
      rw [hbt.out]; exact ⟨rfl, rfl⟩

end Go.Proofs.Ytadceolgekbgmab
