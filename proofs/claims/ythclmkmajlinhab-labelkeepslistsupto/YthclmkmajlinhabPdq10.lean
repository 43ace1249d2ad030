/- The words for the library's sort at labels: what stands outside the part that is still to be sorted. -/
import Derived.Test.YthclmkmajlinhabPdq9
namespace Go.Proofs.Ythclmkmajlinhab
open Go.RowKit

/-- What stands ahead of a is not above what stands in a .. b. -/
def Wall (zs : List Nat) (a b : Nat) : Prop := ∀ p q, p < a → a ≤ q → q < b → at0 zs p ≤ at0 zs q
/-- In a .. b all pairs are in order but those that lie whole in a' .. b'; and so is all ahead of a. -/
def Outer (zk : List Nat) (a b a' b' : Nat) : Prop := ∀ p q, p < q → a ≤ q → q < b → ¬ (a' ≤ p ∧ q < b') → at0 zk p ≤ at0 zk q

theorem Outer.start {zs : List Nat} {a b : Nat} (h : Wall zs a b) : Outer zs a b a b := fun p q _ h2 h3 h4 => h p q (by omega) h2 h3
theorem Outer.done {zk : List Nat} {a b a' b' : Nat} (h : Outer zk a b a' b') (hs : sortedR zk a' b') : sortedR zk a b := fun p q h1 h2 h3 => by
  by_cases e : a' ≤ p ∧ q < b'
  · exact hs p q e.1 h2 e.2
  · exact h p q h2 (by omega) h3 e
theorem Outer.wall {zk : List Nat} {a b a' b' : Nat} (h : Outer zk a b a' b') (h1 : a ≤ a') (h2 : b' ≤ b) : Wall zk a' b' := fun p q p1 p2 p3 => h p q (by omega) (by omega) (by omega) (by omega)
theorem Outer.kept {zk z2 : List Nat} {a b a' b' : Nat} (h : Outer zk a b a' b') (hw : within a' b' zk z2) (h1 : a ≤ a') (h2 : b' ≤ b) (hb : b ≤ zk.length) : Outer z2 a b a' b' := fun p q p1 p2 p3 p4 => by
  by_cases ep : a' ≤ p ∧ p < b'
  · obtain ⟨i, i1, i2, e⟩ := hw.mem (by omega) ep.1 ep.2
    rw [e, hw.2 q (by omega)]
    exact h i q (by omega) p2 p3 (by omega)
  · rw [hw.2 p (by omega)]
    by_cases eq : a' ≤ q ∧ q < b'
    · obtain ⟨i, i1, i2, e⟩ := hw.mem (by omega) eq.1 eq.2
      rw [e]
      exact h p i (by omega) (by omega) (by omega) (by omega)
    · rw [hw.2 q (by omega)]
      exact h p q p1 p2 p3 p4
theorem Outer.equal {zk z2 : List Nat} {a b a' b' c mid : Nat} (h : Outer zk a b a' b') (hw : within a' b' zk z2) (h1 : a ≤ a') (h2 : b' ≤ b) (hb : b ≤ zk.length) (h0 : 0 < a') (hc : at0 zk c ≤ at0 zk (a' - 1)) (_hm : mid ≤ b')
    (hlo : ∀ x, a' ≤ x → x < mid → at0 z2 x ≤ at0 zk c) (_hhi : ∀ y, mid ≤ y → y < b' → at0 zk c < at0 z2 y) : Outer z2 a b mid b' := fun p q p1 p2 p3 p4 => by
  have hk := h.kept hw h1 h2 hb
  by_cases e : a' ≤ p ∧ q < b'
  · have l1 := hlo p e.1 (by omega)
    have l2 := hk (a' - 1) q (by omega) p2 p3 (by omega)
    rw [hw.2 (a' - 1) (by omega)] at l2
    omega
  · exact hk p q p1 p2 p3 e
theorem Outer.left {zk z2 : List Nat} {a b a' b' mid : Nat} (h : Outer zk a b a' b') (hp : parted zk a' b' mid) (hw : within a' mid zk z2) (hs : sortedR z2 a' mid) (h1 : a ≤ a') (h2 : b' ≤ b) (hb : b ≤ zk.length) (hm : a' ≤ mid) (hm2 : mid < b') : Outer z2 a b (mid + 1) b' := fun p q p1 p2 p3 p4 => by
  have hk := h.kept (hw.wide (a := a') (b := b') (by omega) (by omega)) h1 h2 hb
  by_cases e : a' ≤ p ∧ q < b'
  · by_cases hq : q < mid
    · exact hs p q e.1 p1 hq
    · have l1 : at0 zk mid ≤ at0 z2 q := by
        rw [hw.2 q (by omega)]
        by_cases e2 : q = mid
        · subst e2; exact Nat.le_refl _
        · exact hp.2 q (by omega) e.2
      refine Nat.le_trans ?_ l1
      by_cases e3 : p = mid
      · subst e3; rw [hw.2 p (by omega)]; exact Nat.le_refl _
      · exact hw.le (by omega) (fun i i1 i2 => hp.1 i i1 i2) p e.1 (by omega)
  · exact hk p q p1 p2 p3 e
theorem Outer.right {zk z2 : List Nat} {a b a' b' mid : Nat} (h : Outer zk a b a' b') (hp : parted zk a' b' mid) (hw : within (mid + 1) b' zk z2) (hs : sortedR z2 (mid + 1) b') (h1 : a ≤ a') (h2 : b' ≤ b) (hb : b ≤ zk.length) (hm : a' ≤ mid) (hm2 : mid < b') : Outer z2 a b a' mid := fun p q p1 p2 p3 p4 => by
  have hk := h.kept (hw.wide (a := a') (b := b') (by omega) (by omega)) h1 h2 hb
  by_cases e : a' ≤ p ∧ q < b'
  · by_cases hq : mid < p
    · exact hs p q (by omega) p1 e.2
    · have l1 : at0 z2 p ≤ at0 zk mid := by
        rw [hw.2 p (by omega)]
        by_cases e2 : p = mid
        · subst e2; exact Nat.le_refl _
        · exact hp.1 p e.1 (by omega)
      refine Nat.le_trans l1 ?_
      by_cases e3 : q = mid
      · subst e3; rw [hw.2 q (by omega)]; exact Nat.le_refl _
      · exact hw.ge (by omega) (fun i i1 i2 => hp.2 i (by omega) i2) q (by omega) e.2
  · exact hk p q p1 p2 p3 e
theorem Outer.wallL {zk : List Nat} {a b a' b' mid : Nat} (h : Outer zk a b a' b') (h1 : a ≤ a') (h2 : b' ≤ b) (hm2 : mid < b') : Wall zk a' mid := fun p q p1 p2 p3 => h p q (by omega) (by omega) (by omega) (by omega)
theorem Outer.wallR {zk : List Nat} {a b a' b' mid : Nat} (h : Outer zk a b a' b') (hp : parted zk a' b' mid) (h1 : a ≤ a') (h2 : b' ≤ b) (hm : a' ≤ mid) : Wall zk (mid + 1) b' := fun p q p1 p2 p3 => by
  by_cases e : a' ≤ p
  · have l1 := hp.2 q (by omega) p3
    by_cases e2 : p = mid
    · subst e2; exact l1
    · exact Nat.le_trans (hp.1 p e (by omega)) l1
  · exact h p q (by omega) (by omega) (by omega) (by omega)

end Go.Proofs.Ythclmkmajlinhab
