/- Bytes and numbers, there and back; texts and their bytes. -/
import Derived.Test.YtlhlpofmeeiffabFc4
namespace Go.Proofs.Ytlhlpofmeeiffab
open Go.RowKit

theorem beVal_append (xs : List Nat) : ∀ ys : List Nat, beVal (xs ++ ys) = beVal xs * 256 ^ ys.length + beVal ys := by
  intro ys
  have key : ∀ (ys : List Nat) (v : Nat), ys.foldl (fun v x => v * 256 + x) v = v * 256 ^ ys.length + ys.foldl (fun v x => v * 256 + x) 0 := by
    intro ys
    induction ys with
    | nil => intro v; simp
    | cons y t ih =>
      intro v
      simp only [List.foldl_cons, List.length_cons]
      rw [ih (v * 256 + y), ih (0 * 256 + y), Nat.pow_succ, Nat.add_mul, Nat.mul_assoc, Nat.mul_comm 256, Nat.zero_mul, Nat.zero_add, Nat.add_assoc]
  unfold beVal
  rw [List.foldl_append]
  exact key ys _

theorem beVal_bound {l : List Nat} (h : All8 l) : beVal l < 256 ^ l.length := by
  have := beVal_lt h l.length (Nat.le_refl _)
  rwa [List.take_length] at this

theorem be_form {l : List Nat} (h8 : All8 l) : beP l.length (beVal l) l.length = l := by
  apply eq_of_at (beP_len _ _ _)
  intro k hk
  rw [beP_len] at hk
  have hat : at0 (beP l.length (beVal l) l.length) k = beVal l / 256 ^ (l.length - 1 - k) % 256 := by
    rw [← at0_get (by rw [beP_len]; exact hk)]
    simp [beP]
  have hd : (l.drop (k + 1)).length = l.length - 1 - k := by simp; omega
  have hb := beVal_bound (h8.drop (k + 1))
  have ha := beVal_append (l.take (k + 1)) (l.drop (k + 1))
  rw [List.take_append_drop] at ha
  rw [hat, ha, hd] at *
  rw [Nat.mul_comm, Nat.mul_add_div (Nat.pow_pos (by decide)), Nat.div_eq_of_lt hb, Nat.add_zero, take_snoc hk, beVal_snoc]
  have := h8.at k
  omega

theorem be_back {W v : Nat} (hv : v < 256 ^ W) : ∀ j, j ≤ W → beVal (beP W v j) = v / 256 ^ (W - j) := by
  intro j
  induction j with
  | zero => intro _; rw [Nat.sub_zero, Nat.div_eq_of_lt hv]; rfl
  | succ j ih =>
    intro hj
    rw [beP_succ, beVal_snoc, ih (by omega)]
    have e : W - j = (W - 1 - j) + 1 := by omega
    have e2 : W - (j + 1) = W - 1 - j := by omega
    rw [e2, e, Nat.pow_succ, ← Nat.div_div_eq_div_mul]
    omega

theorem be_whole {W v : Nat} (hv : v < 256 ^ W) : beVal (beP W v W) = v := by
  rw [be_back hv W (Nat.le_refl _), Nat.sub_self]; simp

theorem strNat_strOf {p : List Nat} (h8 : All8 p) : strNat (strOf p) = p := by
  unfold strNat
  rw [strOf_data, List.map_map]
  have : ∀ z ∈ p, (UInt8.toNat ∘ UInt8.ofNat) z = z := fun z hz => by
    have := h8 z hz
    simp; omega
  rw [List.map_congr_left this]; simp

theorem strOf_size (p : List Nat) : (strOf p).size = p.length := by
  have h := congrArg List.length (strOf_data p)
  simp at h
  exact h

theorem grown_post {w w1 w2 : World} {r : Option Nat} (hg : w.grownBy w1 r) (hb : Below w1.heap.size w1 w2) : w.grownBy w2 r :=
  ⟨hb.os.trans hg.os, hb.tape.trans hg.tape, hb.output.trans hg.output, Nat.le_trans hg.size hb.size, fun k hk hne => (hb.block k (Nat.lt_of_lt_of_le hk hg.size)).trans (hg.block k hk hne)⟩

end Go.Proofs.Ytlhlpofmeeiffab
