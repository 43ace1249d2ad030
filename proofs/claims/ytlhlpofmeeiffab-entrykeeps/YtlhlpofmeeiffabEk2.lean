/- Slices of bytes apart from one another, and boxes of entries and versions beside them. -/
import Derived.Test.YtlhlpofmeeiffabEk1
import Derived.Test.YtlhlpofmeeiffabEg3
namespace Go.Proofs.Ytlhlpofmeeiffab
open Go.RowKit

/-- Slices of bytes of one's own from block B on, no two of which meet. -/
structure Apt (w : World) (B : Nat) (ss : List (Value × List Nat)) : Prop where
  own : ∀ (i : Nat) (x : Value × List Nat), ss[i]? = some x → OwnB w B x.1 x.2
  apart : ∀ (i j : Nat) (x y : Value × List Nat), ss[i]? = some x → ss[j]? = some y → i ≠ j → ∀ b, x.1.ownBlock = some b → y.1.ownBlock ≠ some b

theorem Apt.nil (w : World) (B : Nat) : Apt w B [] := ⟨fun i x h => by simp at h, fun i j x y h => by simp at h⟩
theorem Apt.below {w w' : World} {B : Nat} {ss : List (Value × List Nat)} (h : Apt w B ss) (hb : Below w.heap.size w w') : Apt w' B ss := ⟨fun i x hx => (h.own i x hx).below hb, h.apart⟩
/-- One more, in new memory. -/
theorem Apt.push {w w' : World} {B : Nat} {ss : List (Value × List Nat)} {v : Value} {zs : List Nat} (h : Apt w B ss) (hb : Below w.heap.size w w') (hB : B ≤ w.heap.size) (ho : OwnB w' w.heap.size v zs) : Apt w' B (ss ++ [(v, zs)]) := by
  have key : ∀ i x, (ss ++ [(v, zs)])[i]? = some x → (i < ss.length ∧ ss[i]? = some x) ∨ (i = ss.length ∧ x = (v, zs)) := fun i x hx => by
    by_cases hi : i < ss.length
    · rw [List.getElem?_append_left hi] at hx; exact .inl ⟨hi, hx⟩
    · rw [List.getElem?_append_right (by omega)] at hx
      have h0 : i - ss.length = 0 := by
        have := (List.getElem?_eq_some_iff.1 hx).1
        simp at this
        omega
      rw [h0] at hx
      exact .inr ⟨by omega, by simpa using hx.symm⟩
  refine ⟨fun i x hx => ?_, fun i j x y hx hy hij b hb1 hb2 => ?_⟩
  · rcases key i x hx with ⟨_, h1⟩ | ⟨_, rfl⟩
    · exact (h.own i x h1).below hb
    · exact ho.mono hB
  · rcases key i x hx with ⟨_, h1⟩ | ⟨h1, rfl⟩ <;> rcases key j y hy with ⟨_, h2⟩ | ⟨h2, rfl⟩
    · exact h.apart i j x y h1 h2 hij b hb1 hb2
    · have := (h.own i x h1).inside b hb1
      have := ho.ge hb2
      omega
    · have := (h.own j y h2).inside b hb2
      have := ho.ge hb1
      omega
    · omega
theorem ownsRow_blk {w : World} {base : Nat} {e : TypeId} {sz : Nat} {v : Value} {n : Nat} {xs : List Value} (h : w.ownsRow base e sz v n xs) {j : Nat} (hj : v.ownBlock = some j) : base ≤ j ∧ j < w.heap.size ∧ ∃ cur, w.heap[j]? = some (.cells cur e (0, 0)) := by
  rcases h.2 with ⟨rfl, _⟩ | ⟨g, cap, cur, rfl, h3, hh, h4⟩
  · cases hj
  · cases hj; exact ⟨h3, (Array.getElem?_eq_some_iff.1 hh).1, cur, hh⟩
theorem ownsRow_still {w w' : World} {base : Nat} {e : TypeId} {sz : Nat} {v : Value} {n : Nat} {xs : List Value} (h : w.ownsRow base e sz v n xs) (hk : ∀ j, v.ownBlock = some j → w'.heap[j]? = w.heap[j]?) : w'.ownsRow base e sz v n xs := by
  refine ⟨h.1, ?_⟩
  rcases h.2 with h2 | ⟨g, cap, cur, rfl, h3, hh, h4⟩
  · exact .inl h2
  · exact .inr ⟨g, cap, cur, rfl, h3, (hk g rfl).trans hh, h4⟩
/-- What changes no row of bytes. -/
theorem Apt.keep {w w' : World} {B : Nat} {ss : List (Value × List Nat)} (h : Apt w B ss) (hk : ∀ (j : Nat) (cur : Array Value), w.heap[j]? = some (Obj.cells cur 5 (0, 0)) → w'.heap[j]? = w.heap[j]?) : Apt w' B ss :=
  ⟨fun i x hx => ownsRow_still (h.own i x hx) fun j hj => by
    obtain ⟨_, _, cur, hc⟩ := ownsRow_blk (h.own i x hx) hj
    exact hk j cur hc, h.apart⟩

/-- One of them is no longer told. -/
theorem Apt.gone {w w' : World} {B : Nat} {ss : List (Value × List Nat)} {k : Nat} {v : Value} {zs : List Nat} (h : Apt w B ss) (hk : ss[k]? = some (v, zs)) (hg : w.grownBy w' v.ownBlock) : Apt w' B (ss.set k (.slice none 0 0, [])) := by
  have hkl := (List.getElem?_eq_some_iff.1 hk).1
  have key : ∀ i x, (ss.set k (.slice none 0 0, []))[i]? = some x → (i ≠ k ∧ ss[i]? = some x) ∨ (i = k ∧ x = (.slice none 0 0, [])) := fun i x hx => by
    by_cases hi : i = k
    · subst hi
      rw [List.getElem?_set_self hkl] at hx
      exact .inr ⟨rfl, by simpa using hx.symm⟩
    · rw [List.getElem?_set_ne (fun e => hi e.symm)] at hx
      exact .inl ⟨hi, hx⟩
  refine ⟨fun i x hx => ?_, fun i j x y hx hy hij b hb1 hb2 => ?_⟩
  · rcases key i x hx with ⟨h1, h2⟩ | ⟨_, rfl⟩
    · exact (h.own i x h2).keep hg (fun b hb e => h.apart i k x (v, zs) h2 hk h1 b hb e)
    · exact World.ownsRow_nil _ _ _ _
  · rcases key i x hx with ⟨h1, h2⟩ | ⟨h1, rfl⟩
    · rcases key j y hy with ⟨h3, h4⟩ | ⟨h3, rfl⟩
      · exact h.apart i j x y h2 h4 hij b hb1 hb2
      · cases hb2
    · cases hb1

abbrev EB := Nat × En × Option Addr × Nat
abbrev VB := Nat × Vn × Option Addr × Nat
/-- What a walk of the law knows: slices apart, boxes of entries, boxes of versions, all made since w0. -/
structure Ks (w0 W : World) (ss : List (Value × List Nat)) (es : List EB) (vs : List VB) : Prop where
  apt : Apt W w0.heap.size ss
  ens : ∀ (i : Nat) (p : EB), es[i]? = some p → BoxN W p.1 p.2.1 p.2.2.1 p.2.2.2 ∧ w0.heap.size ≤ p.1
  vns : ∀ (i : Nat) (p : VB), vs[i]? = some p → BoxW W p.1 p.2.1 p.2.2.1 p.2.2.2
  nd : ∀ (i j : Nat) (p q : EB), es[i]? = some p → es[j]? = some q → i ≠ j → p.1 ≠ q.1
  bel : Below w0.heap.size w0 W

theorem BoxW.lt {w : World} {E : Nat} {x : Vn} {a : Option Addr} {c : Nat} (h : BoxW w E x a c) : E < w.heap.size := (Array.getElem?_eq_some_iff.1 h).1
theorem snoc_get {A : Type} {l : List A} {y x : A} {i : Nat} (h : (l ++ [y])[i]? = some x) : (i < l.length ∧ l[i]? = some x) ∨ (i = l.length ∧ x = y) := by
  by_cases hi : i < l.length
  · rw [List.getElem?_append_left hi] at h; exact .inl ⟨hi, h⟩
  · rw [List.getElem?_append_right (by omega)] at h
    have h0 : i - l.length = 0 := by
      have := (List.getElem?_eq_some_iff.1 h).1
      simp at this
      omega
    rw [h0] at h
    exact .inr ⟨by omega, by simpa using h.symm⟩

section
variable {w0 W W' : World} {ss : List (Value × List Nat)} {es : List EB} {vs : List VB}
theorem Ks.below (h : Ks w0 W ss es vs) (hb : Below W.heap.size W W') : Ks w0 W' ss es vs :=
  ⟨h.apt.below hb, fun i p e => ⟨(hb.block p.1 (h.ens i p e).1.lt).trans (h.ens i p e).1, (h.ens i p e).2⟩, fun i p e => (hb.block p.1 (h.vns i p e).lt).trans (h.vns i p e), h.nd, h.bel.trans (hb.mono h.bel.size)⟩
theorem Ks.push (h : Ks w0 W ss es vs) (hb : Below W.heap.size W W') {v : Value} {zs : List Nat} (ho : OwnB W' W.heap.size v zs) : Ks w0 W' (ss ++ [(v, zs)]) es vs :=
  have h' := h.below hb
  ⟨h.apt.push hb h.bel.size ho, h'.ens, h'.vns, h'.nd, h'.bel⟩
theorem Ks.newE (h : Ks w0 W ss es vs) (x : En) (a : Option Addr) (c : Nat) : Ks w0 (boxE W x a c) ss (es ++ [(W.heap.size, x, a, c)]) vs := by
  have h' := h.below (boxE_below W x a c)
  refine ⟨h'.apt, fun i p e => ?_, h'.vns, fun i j p q hp hq hij => ?_, h'.bel⟩
  · rcases snoc_get e with ⟨_, e⟩ | ⟨_, rfl⟩
    · exact h'.ens i p e
    · exact ⟨heap_alloc_new W _, h.bel.size⟩
  · rcases snoc_get hp with ⟨_, hp⟩ | ⟨h1, rfl⟩ <;> rcases snoc_get hq with ⟨_, hq⟩ | ⟨h2, rfl⟩
    · exact h.nd i j p q hp hq hij
    · have := (h.ens i p hp).1.lt
      simp only
      omega
    · have := (h.ens j q hq).1.lt
      simp only
      omega
    · omega
theorem Ks.newV (h : Ks w0 W ss es vs) (x : Vn) (a : Option Addr) (c : Nat) : Ks w0 (boxV W x a c) ss es (vs ++ [(W.heap.size, x, a, c)]) := by
  have h' := h.below (boxV_below W x a c)
  refine ⟨h'.apt, h'.ens, fun i p e => ?_, h'.nd, h'.bel⟩
  rcases snoc_get e with ⟨_, e⟩ | ⟨_, rfl⟩
  · exact h'.vns i p e
  · exact heap_alloc_new W _
theorem Ks.gone (h : Ks w0 W ss es vs) {k : Nat} {v : Value} {zs : List Nat} (hk : ss[k]? = some (v, zs)) (hg : W.grownBy W' v.ownBlock) : Ks w0 W' (ss.set k (.slice none 0 0, [])) es vs := by
  have hv := h.apt.own k _ hk
  have hne : ∀ (j : Nat) (cur : Array Value) (t : TypeId), W.heap[j]? = some (Obj.cells cur t (0, 0)) → t ≠ 5 → some j ≠ v.ownBlock := fun j cur t hc ht e => by
    obtain ⟨_, _, cur', hc'⟩ := ownsRow_blk hv e.symm
    rw [hc] at hc'
    cases hc'
    exact ht rfl
  refine ⟨h.apt.gone hk hg, fun i p e => ⟨?_, (h.ens i p e).2⟩, fun i p e => ?_, h.nd, h.bel.grown hg h.bel.size (fun j e => hv.ge e)⟩
  · have hb := (h.ens i p e).1
    exact (hg.block p.1 hb.lt (hne p.1 _ _ hb (by decide))).trans hb
  · have hb := h.vns i p e
    exact (hg.block p.1 hb.lt (hne p.1 _ _ hb (by decide))).trans hb
theorem Ks.fill (h : Ks w0 W ss es vs) {k g : Nat} {x0 : En} {a0 : Option Addr} {c0 : Nat} (hk : es[k]? = some (g, x0, a0, c0)) (y : En) (a : Option Addr) (c : Nat) : Ks w0 (fillE W g y a c) ss (es.set k (g, y, a, c)) vs := by
  have hkl := (List.getElem?_eq_some_iff.1 hk).1
  obtain ⟨hbk, hgk⟩ := h.ens k _ hk
  simp only at hbk hgk
  have key : ∀ i x, (es.set k (g, y, a, c))[i]? = some x → (i ≠ k ∧ es[i]? = some x) ∨ (i = k ∧ x = (g, y, a, c)) := fun i x hx => by
    by_cases hi : i = k
    · subst hi
      rw [List.getElem?_set_self hkl] at hx
      exact .inr ⟨rfl, by simpa using hx.symm⟩
    · rw [List.getElem?_set_ne (fun e => hi e.symm)] at hx
      exact .inl ⟨hi, hx⟩
  have hne : ∀ (j : Nat) (cur : Array Value) (t : TypeId), W.heap[j]? = some (Obj.cells cur t (0, 0)) → t ≠ 24 → j ≠ g := fun j cur t hc ht e => by
    subst e
    have hb : W.heap[j]? = _ := hbk
    rw [hc] at hb
    cases hb
    exact ht rfl
  refine ⟨h.apt.keep fun j cur hc => fill_keep (hne j cur _ hc (by decide)) y a c, fun i p e => ?_, fun i p e => ?_, fun i j p q hp hq hij => ?_, fill_below h.bel hgk y a c⟩
  · rcases key i p e with ⟨h1, h2⟩ | ⟨_, rfl⟩
    · exact ⟨(fill_keep (h.nd i k p _ h2 hk h1) y a c).trans (h.ens i p h2).1, (h.ens i p h2).2⟩
    · exact ⟨hbk.fill y a c, hgk⟩
  · have hb := h.vns i p e
    exact (fill_keep (hne p.1 _ _ hb (by decide)) y a c).trans hb
  · rcases key i p hp with ⟨h1, h2⟩ | ⟨h1, rfl⟩ <;> rcases key j q hq with ⟨h3, h4⟩ | ⟨h3, rfl⟩
    · exact h.nd i j p q h2 h4 hij
    · have hn := h.nd i k p _ h2 hk h1
      exact hn
    · exact fun e => h.nd j k q _ h4 hk h3 e.symm
    · omega
theorem Ks.swap {p q : EB} (h : Ks w0 W ss (es ++ [p] ++ [q]) vs) : Ks w0 W ss (es ++ [q] ++ [p]) vs := by
  have key : ∀ i r, (es ++ [q] ++ [p])[i]? = some r → ∃ i', (es ++ [p] ++ [q])[i']? = some r ∧ ((i < es.length ∧ i' = i) ∨ (i = es.length ∧ i' = es.length + 1) ∨ (i = es.length + 1 ∧ i' = es.length)) := fun i r hr => by
    rcases snoc_get hr with ⟨_, hr⟩ | ⟨h1, rfl⟩
    · rcases snoc_get hr with ⟨h2, hr⟩ | ⟨h2, rfl⟩
      · exact ⟨i, by rw [List.append_assoc, List.getElem?_append_left h2]; exact hr, .inl ⟨h2, rfl⟩⟩
      · exact ⟨es.length + 1, by rw [List.getElem?_append_right (by simp)]; simp, .inr (.inl ⟨h2, rfl⟩)⟩
    · refine ⟨es.length, by rw [List.append_assoc, List.getElem?_append_right (Nat.le_refl _)]; simp, .inr (.inr ⟨?_, rfl⟩)⟩
      rw [h1]; simp
  refine ⟨h.apt, fun i r hr => ?_, h.vns, fun i j r s hr hs hij => ?_, h.bel⟩
  · obtain ⟨i', e, _⟩ := key i r hr
    exact h.ens i' r e
  · obtain ⟨i', e1, c1⟩ := key i r hr
    obtain ⟨j', e2, c2⟩ := key j s hs
    exact h.nd i' j' r s e1 e2 (by omega)
end
end Go.Proofs.Ytlhlpofmeeiffab
