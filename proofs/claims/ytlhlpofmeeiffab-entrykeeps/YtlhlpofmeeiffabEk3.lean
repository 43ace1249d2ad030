/- Two entries made in one line, in whatever order. -/
import Derived.Test.YtlhlpofmeeiffabEk2
namespace Go.Proofs.Ytlhlpofmeeiffab
open Go.RowKit

section
variable {w0 W0 W W' : World} {ss : List (Value × List Nat)} {es : List EB} {vs : List VB}
theorem Ks.drew (h : Ks w0 W ss es vs) : Ks w0 W.drew ss es vs := ⟨⟨fun i x hx => h.apt.own i x hx, h.apt.apart⟩, fun i p e => h.ens i p e, fun i p e => h.vns i p e, h.nd, h.bel.drew⟩
theorem Ks.addE (h : Ks w0 W ss es vs) {g : Nat} {x : En} {a : Option Addr} {c : Nat} (hb : BoxN W g x a c) (hg : w0.heap.size ≤ g) (hn : ∀ (i : Nat) (p : EB), es[i]? = some p → p.1 ≠ g) : Ks w0 W ss (es ++ [(g, x, a, c)]) vs := by
  refine ⟨h.apt, fun i p e => ?_, h.vns, fun i j p q hp hq hij => ?_, h.bel⟩
  · rcases snoc_get e with ⟨_, e⟩ | ⟨_, rfl⟩
    · exact h.ens i p e
    · exact ⟨hb, hg⟩
  · rcases snoc_get hp with ⟨_, hp⟩ | ⟨h1, rfl⟩ <;> rcases snoc_get hq with ⟨_, hq⟩ | ⟨h2, rfl⟩
    · exact h.nd i j p q hp hq hij
    · exact hn i p hp
    · exact fun e => hn j q hq e.symm
    · omega
/-- What is made so far: what two calls answered, two places. -/
structure Mk (w0 W0 W : World) (ss : List (Value × List Nat)) (es : List EB) (vs : List VB) (r1 r2 : Option (Value × List Nat)) (o1 o2 : Option Nat) : Prop where
  ks : Ks w0 W (ss ++ r1.toList ++ r2.toList) es vs
  bel : Below W0.heap.size W0 W
  low : w0.heap.size ≤ W0.heap.size
  old : ∀ (i : Nat) (p : EB), es[i]? = some p → p.1 < W0.heap.size
  b1 : ∀ g, o1 = some g → BoxN W g zeroEn none 0 ∧ W0.heap.size ≤ g
  b2 : ∀ g, o2 = some g → BoxN W g zeroEn none 0 ∧ W0.heap.size ≤ g
  ne : ∀ g, o1 = some g → o2 ≠ some g
theorem Mk.start (h : Ks w0 W0 ss es vs) : Mk w0 W0 W0.drew ss es vs none none none none :=
  ⟨by simpa using h.drew, (Below.refl _ _).drew, h.bel.size, fun i p e => (h.ens i p e).1.lt, (fun g e => by cases e), (fun g e => by cases e), fun g e => by cases e⟩
variable {r1 r2 : Option (Value × List Nat)} {o1 o2 : Option Nat}
theorem Mk.call1 (h : Mk w0 W0 W ss es vs none none o1 o2) (hb : Below W.heap.size W W') {v : Value} {zs : List Nat} (ho : OwnB W' W.heap.size v zs) : Mk w0 W0 W' ss es vs (some (v, zs)) none o1 o2 :=
  ⟨by have := h.ks.push hb ho; simpa using this, h.bel.trans (hb.mono h.bel.size), h.low, h.old, fun g e => ⟨(h.b1 g e).1.under hb (h.b1 g e).1.lt, (h.b1 g e).2⟩, fun g e => ⟨(h.b2 g e).1.under hb (h.b2 g e).1.lt, (h.b2 g e).2⟩, h.ne⟩
theorem Mk.call2 (h : Mk w0 W0 W ss es vs r1 none o1 o2) (hb : Below W.heap.size W W') {v : Value} {zs : List Nat} (ho : OwnB W' W.heap.size v zs) : Mk w0 W0 W' ss es vs r1 (some (v, zs)) o1 o2 :=
  ⟨by have := h.ks.push hb ho; simpa using this, h.bel.trans (hb.mono h.bel.size), h.low, h.old, fun g e => ⟨(h.b1 g e).1.under hb (h.b1 g e).1.lt, (h.b1 g e).2⟩, fun g e => ⟨(h.b2 g e).1.under hb (h.b2 g e).1.lt, (h.b2 g e).2⟩, h.ne⟩
theorem Mk.box1 (h : Mk w0 W0 W ss es vs r1 r2 none o2) : ∃ z, z = W.alloc (.cells #[.int .i64 0, .int .i64 0, .int .i64 0, .string ⟨#[]⟩, .slice none 0 0, .bool false] 24) ∧ Mk w0 W0 z ss es vs r1 r2 (some W.heap.size) o2 := by
  have hb := boxE_below W zeroEn none 0
  refine ⟨_, rfl, h.ks.below hb, h.bel.trans (hb.mono h.bel.size), h.low, h.old, fun g e => ?_, fun g e => ⟨(h.b2 g e).1.under hb (h.b2 g e).1.lt, (h.b2 g e).2⟩, fun g e e2 => ?_⟩
  · cases e; exact ⟨heap_alloc_new W _, h.bel.size⟩
  · cases e
    have := (h.b2 _ e2).1.lt
    omega
theorem Mk.box2 (h : Mk w0 W0 W ss es vs r1 r2 o1 none) : ∃ z, z = W.alloc (.cells #[.int .i64 0, .int .i64 0, .int .i64 0, .string ⟨#[]⟩, .slice none 0 0, .bool false] 24) ∧ Mk w0 W0 z ss es vs r1 r2 o1 (some W.heap.size) := by
  have hb := boxE_below W zeroEn none 0
  refine ⟨_, rfl, h.ks.below hb, h.bel.trans (hb.mono h.bel.size), h.low, h.old, fun g e => ⟨(h.b1 g e).1.under hb (h.b1 g e).1.lt, (h.b1 g e).2⟩, fun g e => ?_, fun g e e2 => ?_⟩
  · cases e; exact ⟨heap_alloc_new W _, h.bel.size⟩
  · cases e2
    have := (h.b1 _ e).1.lt
    omega
theorem Mk.other {g1 g2 : Nat} (h : Mk w0 W0 W ss es vs r1 r2 (some g1) (some g2)) (y : En) (a : Option Addr) (c : Nat) : BoxN (fillE W g1 y a c) g2 zeroEn none 0 :=
  (fill_keep (fun e => h.ne _ rfl (by rw [e])) y a c).trans (h.b2 _ rfl).1
theorem Mk.bel1 {g1 : Nat} (h : Mk w0 W0 W ss es vs r1 r2 (some g1) o2) (y : En) (a : Option Addr) (c : Nat) : Below W0.heap.size W0 (fillE W g1 y a c) := fill_below h.bel (h.b1 _ rfl).2 y a c
theorem Mk.bel2 {g1 g2 : Nat} (h : Mk w0 W0 W ss es vs r1 r2 (some g1) (some g2)) (y z : En) (a b : Option Addr) (c d : Nat) : Below W0.heap.size W0 (fillE (fillE W g1 y a c) g2 z b d) := fill_below (h.bel1 y a c) (h.b2 _ rfl).2 z b d
/-- Both are laid down. -/
theorem Mk.fin {x1 x2 : Value × List Nat} {g1 g2 : Nat} (h : Mk w0 W0 W ss es vs (some x1) (some x2) (some g1) (some g2)) (y1 y2 : En) (a1 a2 : Option Addr) (c1 c2 : Nat) :
    Ks w0 (fillE (fillE W g1 y1 a1 c1) g2 y2 a2 c2) (ss ++ [x1] ++ [x2]) (es ++ [(g1, y1, a1, c1)] ++ [(g2, y2, a2, c2)]) vs := by
  obtain ⟨hb1, hl1⟩ := h.b1 g1 rfl
  obtain ⟨hb2, hl2⟩ := h.b2 g2 rfl
  have hne := h.ne g1 rfl
  have hw0 : w0.heap.size ≤ g1 ∧ w0.heap.size ≤ g2 := by
    have := h.low
    omega
  have k1 := (h.ks.addE hb1 hw0.1 (fun i p e => by have := h.old i p e; omega)).addE hb2 hw0.2 (fun i p e => by
    rcases snoc_get e with ⟨_, e⟩ | ⟨_, rfl⟩
    · have := h.old i p e; omega
    · exact fun e => hne (by rw [← e]))
  have i1 : (es ++ [(g1, zeroEn, none, 0)] ++ [(g2, zeroEn, none, 0)] : List EB)[es.length]? = some (g1, zeroEn, none, 0) := by
    rw [List.append_assoc, List.getElem?_append_right (Nat.le_refl _)]; simp
  have k2 := k1.fill i1 y1 a1 c1
  have s1 : (es ++ [(g1, zeroEn, none, 0)] ++ [(g2, zeroEn, none, 0)] : List EB).set es.length (g1, y1, a1, c1) = es ++ [(g1, y1, a1, c1)] ++ [(g2, zeroEn, none, 0)] := by
    rw [List.append_assoc, List.set_append_right _ _ (Nat.le_refl _)]; simp
  rw [s1] at k2
  have i2 : (es ++ [(g1, y1, a1, c1)] ++ [(g2, zeroEn, none, 0)] : List EB)[es.length + 1]? = some (g2, zeroEn, none, 0) := by
    rw [List.getElem?_append_right (by simp)]; simp
  have k3 := k2.fill i2 y2 a2 c2
  have s2 : (es ++ [(g1, y1, a1, c1)] ++ [(g2, zeroEn, none, 0)] : List EB).set (es.length + 1) (g2, y2, a2, c2) = es ++ [(g1, y1, a1, c1)] ++ [(g2, y2, a2, c2)] := by
    rw [List.set_append_right _ _ (by simp)]; simp
  rw [s2] at k3
  exact k3
/-- One behind the other, each world by a name. -/
theorem Mk.put {x1 x2 : Value × List Nat} {g1 g2 : Nat} (h : Mk w0 W0 W ss es vs (some x1) (some x2) (some g1) (some g2)) (y1 : En) (a1 : Option Addr) (c1 : Nat) :
    ∃ z, z = ((((((W.setCell ⟨g1, 0, none⟩ (.int .i64 y1.kind)).setCell ⟨g1, 1, none⟩ (.int .i64 y1.stamp)).setCell ⟨g1, 2, none⟩ (.int .i64 y1.count)).setCell ⟨g1, 3, none⟩ (.string y1.key)).setCell ⟨g1, 4, none⟩ (.slice a1 y1.val.length c1)).setCell ⟨g1, 5, none⟩ (.bool y1.dead)) ∧ BoxN z g2 zeroEn none 0 ∧ Below W0.heap.size W0 z ∧
      ∀ (y2 : En) (a2 : Option Addr) (c2 : Nat), ∃ z2, z2 = ((((((z.setCell ⟨g2, 0, none⟩ (.int .i64 y2.kind)).setCell ⟨g2, 1, none⟩ (.int .i64 y2.stamp)).setCell ⟨g2, 2, none⟩ (.int .i64 y2.count)).setCell ⟨g2, 3, none⟩ (.string y2.key)).setCell ⟨g2, 4, none⟩ (.slice a2 y2.val.length c2)).setCell ⟨g2, 5, none⟩ (.bool y2.dead)) ∧ Below W0.heap.size W0 z2 ∧ Ks w0 z2 (ss ++ [x1] ++ [x2]) (es ++ [(g1, y1, a1, c1)] ++ [(g2, y2, a2, c2)]) vs :=
  ⟨_, rfl, h.other y1 a1 c1, h.bel1 y1 a1 c1, fun y2 a2 c2 => ⟨_, rfl, h.bel2 y1 y2 a1 a2 c1 c2, h.fin y1 y2 a1 a2 c1 c2⟩⟩
end
end Go.Proofs.Ytlhlpofmeeiffab
