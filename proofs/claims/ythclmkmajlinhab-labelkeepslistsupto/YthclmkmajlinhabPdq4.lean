/- Heaps, as the library's sort makes them: the words and the two steps. -/
import Derived.Test.YthclmkmajlinhabPdq3
namespace Go.Proofs.Ythclmkmajlinhab
open Go.RowKit

/-- c stands right below s in the tree. -/
def kid (s c : Nat) : Prop := c = 2 * s + 1 ∨ c = 2 * s + 2
/-- From lo on each is at least what stands right below it, among the first hi. -/
def heapFrom (zk : List Nat) (f lo hi : Nat) : Prop := ∀ s c, lo ≤ s → kid s c → c < hi → at0 zk (f + c) ≤ at0 zk (f + s)
/-- .. but maybe at r; what stands below r is not above what stands above r. -/
structure heapBut (zk : List Nat) (f lo hi r : Nat) : Prop where
  low : lo ≤ r
  rest : ∀ s c, lo ≤ s → s ≠ r → kid s c → c < hi → at0 zk (f + c) ≤ at0 zk (f + s)
  over : ∀ s c, lo ≤ s → kid s r → kid r c → c < hi → at0 zk (f + c) ≤ at0 zk (f + s)

theorem heapBut.start {zk : List Nat} {f lo hi : Nat} (h : heapFrom zk f (lo + 1) hi) : heapBut zk f lo hi lo :=
  ⟨Nat.le_refl _, fun s c h1 h2 h3 h4 => h s c (by omega) h3 h4, fun s c h1 h2 _ _ => by unfold kid at h2; omega⟩
theorem heapBut.leaf {zk : List Nat} {f lo hi r : Nat} (h : heapBut zk f lo hi r) (hr : hi ≤ 2 * r + 1) : heapFrom zk f lo hi := fun s c h1 h2 h3 => by
  by_cases e : s = r
  · subst e; unfold kid at h2; omega
  · exact h.rest s c h1 e h2 h3
theorem heapBut.stop {zk : List Nat} {f lo hi r c0 : Nat} (h : heapBut zk f lo hi r) (hg : ∀ c, kid r c → c < hi → at0 zk (f + c) ≤ at0 zk (f + c0)) (hle : at0 zk (f + c0) ≤ at0 zk (f + r)) : heapFrom zk f lo hi := fun s c h1 h2 h3 => by
  by_cases e : s = r
  · subst e; exact Nat.le_trans (hg c h2 h3) hle
  · exact h.rest s c h1 e h2 h3
theorem heapBut.step {zk : List Nat} {f lo hi r c0 : Nat} (h : heapBut zk f lo hi r) (hk : kid r c0) (hc : c0 < hi) (hf : f + hi ≤ zk.length) (hg : ∀ c, kid r c → c < hi → at0 zk (f + c) ≤ at0 zk (f + c0)) (hlt : at0 zk (f + r) < at0 zk (f + c0)) :
    heapBut (swapL zk (f + r) (f + c0)) f lo hi c0 := by
  have hrc : r < c0 := by unfold kid at hk; omega
  have hat := fun k => swapL_at (zs := zk) (i := f + r) (j := f + c0) (by omega) (by omega) k
  refine ⟨by have := h.low; omega, fun s c h1 h2 h3 h4 => ?_, fun s c h1 h2 h3 h4 => ?_⟩
  · rw [hat, hat]
    by_cases es : s = r
    · subst es
      rw [if_neg (by omega : ¬ f + s = f + c0), if_pos rfl]
      by_cases ec : c = c0
      · subst ec; rw [if_pos rfl]; omega
      · rw [if_neg (by omega), if_neg (by unfold kid at h3; omega)]; exact hg c h3 h4
    · rw [if_neg (by omega : ¬ f + s = f + c0), if_neg (by omega : ¬ f + s = f + r)]
      by_cases ec : c = c0
      · exfalso; subst ec; unfold kid at hk h3; omega
      · rw [if_neg (by omega)]
        by_cases er : c = r
        · subst er; rw [if_pos rfl]; exact h.over s c0 h1 h3 hk hc
        · rw [if_neg (by omega)]; exact h.rest s c h1 es h3 h4
  · have es : s = r := by unfold kid at h2 hk; omega
    subst es
    have hcc : c0 < c := by unfold kid at h3; omega
    rw [hat, hat, if_neg (by omega), if_neg (by omega), if_neg (by omega : ¬ f + s = f + c0), if_pos rfl]
    exact h.rest c0 c (by have := h.low; omega) (by omega) h3 h4

end Go.Proofs.Ythclmkmajlinhab
