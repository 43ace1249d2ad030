/- Two queues: what is known between two calls. -/
import Derived.Test.YtomfhbngpikjeaaQuDo6
namespace Go.Proofs.Ytomfhbngpikjeaa
open Go.RowKit

theorem i64_and7 (n : Int) : bits .and .i64 n 7 = n % 8 := by
  have e7 : (BitVec.ofInt 64 7).toNat = 2 ^ 3 - 1 := by decide
  have hm : (BitVec.ofInt 64 n &&& BitVec.ofInt 64 7).toNat = (n % 18446744073709551616).toNat % 8 := by
    rw [BitVec.toNat_and, e7, Nat.and_two_pow_sub_one_eq_mod, BitVec.toNat_ofInt]
    rfl
  have hb : bits .and .i64 n 7 = IntKind.i64.wrap ((BitVec.ofInt 64 n &&& BitVec.ofInt 64 7).toNat : Nat) := rfl
  rw [hb, hm, i64_in (by omega) (by omega)]
  omega

/-- Two pairs of queues; the document's ones lie in row p, the pointers in row q. -/
structure Two (w0 w : World) (p q : Nat) (N b g : Nat → Nat) (v : Nat → Value) (xs : Nat → List ByteArray) : Prop where
  both : ∀ t, t < 2 → Both w (b t) (g t) (N t) w0.heap.size (v t) (xs t)
  apart : ∀ t u, t < 2 → u < 2 → t ≠ u → b t ≠ b u ∧ b t ≠ g u ∧ g t ≠ b u ∧ g t ≠ g u ∧ ∀ j, (v t).ownBlock = some j → j ≠ b u ∧ j ≠ g u
  wants : ∃ cur, w.heap[p]? = some (.cells cur 24 (0, 0)) ∧ ∀ t, t < 2 → cur[t * 2]? = some (.int .i64 (N t : Int)) ∧ cur[t * 2 + 1]? = some (v t)
  queues : ∃ cur, w.heap[q]? = some (.cells cur 27 (0, 0)) ∧ ∀ t, t < 2 → cur[t]? = some (.pointer (some ⟨b t, 0, none⟩))
  off : ∀ t, t < 2 → p ≠ b t ∧ p ≠ g t ∧ q ≠ b t ∧ q ≠ g t
  ge : ∀ t, t < 2 → w0.heap.size ≤ b t ∧ w0.heap.size ≤ g t
  pge : w0.heap.size ≤ p
  qge : w0.heap.size ≤ q
theorem Two.below {w0 w w' : World} {p q : Nat} {N b g : Nat → Nat} {v : Nat → Value} {xs : Nat → List ByteArray} (h : Two w0 w p q N b g v xs) (hb : Below w.heap.size w w') : Two w0 w' p q N b g v xs := by
  obtain ⟨c1, h1, h2⟩ := h.wants
  obtain ⟨c2, h3, h4⟩ := h.queues
  exact ⟨fun t ht => (h.both t ht).below hb, h.apart, ⟨c1, (hb.block p (Array.getElem?_eq_some_iff.1 h1).1).trans h1, h2⟩, ⟨c2, (hb.block q (Array.getElem?_eq_some_iff.1 h3).1).trans h3, h4⟩, h.off, h.ge, h.pge, h.qge⟩
theorem Two.cells {w0 w : World} {p q : Nat} {N b g : Nat → Nat} {v : Nat → Value} {xs : Nat → List ByteArray} (h : Two w0 w p q N b g v xs) {t : Nat} (ht : t < 2) :
    w.cell? ⟨p, t * 2, none⟩ = some (.int .i64 (N t : Int)) ∧ w.cell? ⟨p, t * 2 + 1, none⟩ = some (v t) ∧ w.cell? ⟨q, t, none⟩ = some (.pointer (some ⟨b t, 0, none⟩)) ∧ w.frozen? ⟨p, t * 2, none⟩ = false ∧ w.frozen? ⟨p, t * 2 + 1, none⟩ = false ∧ p < w.heap.size ∧ q < w.heap.size := by
  obtain ⟨c1, h1, h2⟩ := h.wants
  obtain ⟨c2, h3, h4⟩ := h.queues
  exact ⟨(cell_of_row _ _ _ _ _ _ h1).trans (h2 t ht).1, (cell_of_row _ _ _ _ _ _ h1).trans (h2 t ht).2, (cell_of_row _ _ _ _ _ _ h3).trans (h4 t ht), frozen_of_row _ _ _ _ _ h1, frozen_of_row _ _ _ _ _ h1, (Array.getElem?_eq_some_iff.1 h1).1, (Array.getElem?_eq_some_iff.1 h3).1⟩

/-- One value put in a function's place. -/
def upd {α : Type} (f : Nat → α) (t : Nat) (x : α) : Nat → α := fun u => if u = t then x else f u
theorem upd_same {α : Type} (f : Nat → α) (t : Nat) (x : α) : upd f t x t = x := by simp [upd]
theorem upd_other {α : Type} (f : Nat → α) {t u : Nat} (x : α) (h : u ≠ t) : upd f t x u = f u := by simp [upd, h]

theorem Both.put_box {w : World} {b g most base c : Nat} {v u1 u2 : Value} {xs : List ByteArray} {C : Array Value} (h : Both w b g most base v xs) (hc : w.heap[c]? = some (.cells C 24 (0, 0))) (hb : c ≠ b) (hg : c ≠ g) :
    Both ((w.setCell ⟨c, 0, none⟩ u1).setCell ⟨c, 1, none⟩ u2) b g most base v xs := by
  have hk : ∀ k, k ≠ c → ((w.setCell ⟨c, 0, none⟩ u1).setCell ⟨c, 1, none⟩ u2).heap[k]? = w.heap[k]? := fun k h6 =>
    (Below.heap_setCell _ _ _ k (by simpa using h6)).trans (Below.heap_setCell _ _ _ k (by simpa using h6))
  exact ⟨h.qu.keep (hk b (fun e => hb e.symm)) (hk g (fun e => hg e.symm)), h.ow.heap fun j hj => hk j (h.ow.not_box hc j hj), h.off⟩

/-- A call of one of them. -/
theorem Two.next {w0 w w5 : World} {p q : Nat} {N b g : Nat → Nat} {v : Nat → Value} {xs : Nat → List ByteArray} (h : Two w0 w p q N b g v xs) (hw : w0.heap.size ≤ w.heap.size) {t : Nat} (ht : t < 2) {g' : Nat} {v' : Value} {ys : List ByteArray}
    (hg : g' = g t ∨ g' = b t ∨ w.heap.size ≤ g') (hb : Both w5 (b t) g' (N t) w0.heap.size v' ys) (hv : ∀ j, v'.ownBlock = some j → v' = v t ∨ w.heap.size ≤ j) (ho : Only (b t) (g t) w w5) :
    Two w0 ((w5.setCell ⟨p, t * 2, none⟩ (.int .i64 (N t : Int))).setCell ⟨p, t * 2 + 1, none⟩ v') p q N b (upd g t g') (upd v t v') (upd xs t ys) ∧
      Below w0.heap.size w ((w5.setCell ⟨p, t * 2, none⟩ (.int .i64 (N t : Int))).setCell ⟨p, t * 2 + 1, none⟩ v') := by
  obtain ⟨c1, h1, h2⟩ := h.wants
  obtain ⟨c2, h3, h4⟩ := h.queues
  have hpl := (Array.getElem?_eq_some_iff.1 h1).1
  have hql := (Array.getElem?_eq_some_iff.1 h3).1
  have hs := ho.size
  obtain ⟨o1, o2, o3, o4⟩ := h.off t ht
  have h15 := (ho.block p hpl o1 o2).trans h1
  have h35 := (ho.block q hql o3 o4).trans h3
  have hpq : p ≠ q := fun e => by rw [e, h3] at h1; cases h1
  have b1 := heap_setCell_same _ p (t * 2) _ _ (.int .i64 (N t : Int)) h15
  have b2 := heap_setCell_same _ p (t * 2 + 1) _ _ v' b1
  have hk : ∀ k, k < w5.heap.size → k ≠ p → ((w5.setCell ⟨p, t * 2, none⟩ (.int .i64 (N t : Int))).setCell ⟨p, t * 2 + 1, none⟩ v').heap[k]? = w5.heap[k]? := fun k _ h6 =>
    (Below.heap_setCell _ _ _ k (by simpa using h6)).trans (Below.heap_setCell _ _ _ k (by simpa using h6))
  have hlt := hb.qu.lt
  have hg2 : g' ≠ p := by rcases hg with e | e | e <;> omega
  have hg3 : g' ≠ q := by rcases hg with e | e | e <;> omega
  have hother : ∀ u, u < 2 → u ≠ t → g' ≠ b u ∧ g' ≠ g u ∧ ∀ j, (v u).ownBlock = some j → j ≠ g' := fun u hu hne => by
    obtain ⟨a1, a2, a3, a4, a5⟩ := h.apart u t hu ht hne
    have hub := (h.both u hu).qu.lt
    refine ⟨by rcases hg with e | e | e <;> omega, by rcases hg with e | e | e <;> omega, fun j hj => ?_⟩
    have := a5 j hj
    have := (h.both u hu).ow.inside j hj
    rcases hg with e | e | e <;> omega
  have hst := (Array.getElem?_eq_some_iff.1 (h2 t ht).2).1
  refine ⟨⟨fun u hu => ?_, fun u z hu hz hne => ?_, ⟨_, b2, fun u hu => ?_⟩, ⟨c2, (hk q (by omega) (fun e => hpq e.symm)).trans h35, h4⟩, fun u hu => ?_, fun u hu => ?_, h.pge, h.qge⟩, ?_⟩
  · by_cases e : u = t
    · subst e
      rw [upd_same, upd_same, upd_same]
      exact ⟨hb.qu.keep (hk _ hlt.1 (fun e => o1 e.symm)) (hk _ hlt.2 hg2), hb.ow.heap fun j hj => hk j (hb.ow.inside j hj) (hb.ow.not_box h15 j hj), hb.off⟩
    · rw [upd_other _ _ e, upd_other _ _ e, upd_other _ _ e]
      have hbu := h.both u hu
      obtain ⟨a1, a2, a3, a4, a5⟩ := h.apart u t hu ht e
      obtain ⟨f1, f2, _, _⟩ := h.off u hu
      have hlu := hbu.qu.lt
      refine ⟨hbu.qu.keep ((hk _ (by omega) (fun e => f1 e.symm)).trans (ho.block _ hlu.1 a1 a2)) ((hk _ (by omega) (fun e => f2 e.symm)).trans (ho.block _ hlu.2 a3 a4)), hbu.ow.heap fun j hj => ?_, hbu.off⟩
      have hin := hbu.ow.inside j hj
      exact (hk j (by omega) (hbu.ow.not_box h1 j hj)).trans (ho.block j hin (a5 j hj).1 (a5 j hj).2)
  · by_cases e : u = t
    · subst e
      have hzt : z ≠ u := fun e => hne e.symm
      obtain ⟨k1, k2, k3⟩ := hother z hz hzt
      obtain ⟨a1, a2, a3, a4, a5⟩ := h.apart u z hu hz hne
      rw [upd_same, upd_other _ _ hzt, upd_same]
      refine ⟨a1, a2, k1, k2, fun j hj => ?_⟩
      rcases hv j hj with e | e
      · rw [e] at hj; exact a5 j hj
      · have := (h.both z hz).qu.lt; exact ⟨by omega, by omega⟩
    · by_cases e2 : z = t
      · subst e2
        obtain ⟨k1, k2, k3⟩ := hother u hu e
        obtain ⟨a1, a2, a3, a4, a5⟩ := h.apart u z hu hz hne
        rw [upd_same, upd_other _ _ e, upd_other _ _ e]
        exact ⟨a1, fun e => k1 e.symm, a3, fun e => k2 e.symm, fun j hj => ⟨(a5 j hj).1, k3 j hj⟩⟩
      · exfalso; omega
  · by_cases e : u = t
    · subst e
      rw [upd_same]
      have := (Array.getElem?_eq_some_iff.1 (h2 u hu).1).1
      exact ⟨by rw [Array.getElem?_setIfInBounds_ne (by omega), Array.getElem?_setIfInBounds_self_of_lt (by omega)], by rw [Array.getElem?_setIfInBounds_self_of_lt (by simp; omega)]⟩
    · rw [upd_other _ _ e]
      rw [Array.getElem?_setIfInBounds_ne (by omega), Array.getElem?_setIfInBounds_ne (by omega), Array.getElem?_setIfInBounds_ne (by omega), Array.getElem?_setIfInBounds_ne (by omega)]
      exact h2 u hu
  · by_cases e : u = t
    · subst e
      rw [upd_same]
      exact ⟨o1, fun e => hg2 e.symm, o3, fun e => hg3 e.symm⟩
    · rw [upd_other _ _ e]
      exact h.off u hu
  · by_cases e : u = t
    · subst e
      rw [upd_same]
      have := h.ge u hu
      exact ⟨this.1, by rcases hg with e | e | e <;> omega⟩
    · rw [upd_other _ _ e]
      exact h.ge u hu
  · have hge := h.ge t ht
    have z := ho.below (B := w0.heap.size) hge.1 hge.2 hw
    exact (z.setCell (p := ⟨p, t * 2, none⟩) h.pge _).setCell (p := ⟨p, t * 2 + 1, none⟩) h.pge _

end Go.Proofs.Ytomfhbngpikjeaa
