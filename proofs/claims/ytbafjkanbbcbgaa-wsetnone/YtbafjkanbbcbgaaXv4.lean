/- Over's walk: what is laid ahead of it. -/
import Derived.Test.YtbafjkanbbcbgaaXv3
import Derived.Test.YtbafjkanbbcbgaaRh2
namespace Go.Proofs.Ytbafjkanbbcbgaa
open Go.RowKit Go.Maps Go.Shelf

/-- The boxes of a walk, as they are made, in whatever order. -/
structure PMk (W1 : World) (F : Nat → Prop) (M : List Vn) (fr to : List UInt8) (wq : World) (o6 o7 : Option Nat) (oc : Option (Option Nat)) (op : Option (Option Addr × Nat × Nat)) : Prop where
  bel : Below W1.heap.size W1 wq
  m6 : ∀ b, o6 = some b → W1.heap.size ≤ b ∧ Boxed wq b 30 (.map none)
  m7 : ∀ b, o7 = some b → W1.heap.size ≤ b ∧ Boxed wq b 27 (.slice none 0 0)
  mc : ∀ c, oc = some c → CopyW wq c M ∧ ∀ b, c = some b → W1.heap.size ≤ b ∧ ∃ es k, wq.heap[b]? = some (.map es k)
  mp : ∀ v, op = some v → ∃ zs, OwV wq W1.heap.size (.slice v.1 v.2.1 v.2.2) zs ∧ (∀ y ∈ zs, ValF W1 F y ∧ y ∈ M) ∧ saysV zs = putsW (saysV M) fr to ∧ v.2.1 = zs.length
/-- All is there. -/
structure PFin (W1 : World) (F : Nat → Prop) (M : List Vn) (fr to : List UInt8) (w : World) (b6 b7 : Nat) (mc : Option Nat) (a : Option Addr) (n c : Nat) (zs : List Vn) : Prop where
  bel : Below W1.heap.size W1 w
  x6 : Boxed w b6 30 (.map mc)
  x7 : Boxed w b7 27 (.slice a n c)
  l6 : W1.heap.size ≤ b6
  l7 : W1.heap.size ≤ b7
  cp : CopyW w mc M
  lc : ∀ b, mc = some b → W1.heap.size ≤ b ∧ ∃ es k, w.heap[b]? = some (.map es k)
  ow : OwV w W1.heap.size (.slice a n c) zs
  vl : ∀ y ∈ zs, ValF W1 F y ∧ y ∈ M
  sy : saysV zs = putsW (saysV M) fr to
  ln : n = zs.length

section
variable {W1 wq wz : World} {F : Nat → Prop} {M : List Vn} {fr to : List UInt8} {o6 o7 : Option Nat} {oc : Option (Option Nat)} {op : Option (Option Addr × Nat × Nat)}
theorem PMk.start (W1 : World) (F : Nat → Prop) (M : List Vn) (fr to : List UInt8) : PMk W1 F M fr to W1.drew none none none none :=
  ⟨(Below.refl _ _).drew, (fun b e => by cases e), (fun b e => by cases e), (fun b e => by cases e), fun b e => by cases e⟩
theorem PMk.below (h : PMk W1 F M fr to wq o6 o7 oc op) (hb : Below wq.heap.size wq wz) : PMk W1 F M fr to wz o6 o7 oc op := by
  refine ⟨h.bel.trans (hb.mono h.bel.size), fun b e => ?_, fun b e => ?_, fun c e => ?_, fun v e => ?_⟩
  · obtain ⟨h1, h2⟩ := h.m6 b e; exact ⟨h1, (hb.block _ h2.lt).trans h2⟩
  · obtain ⟨h1, h2⟩ := h.m7 b e; exact ⟨h1, (hb.block _ h2.lt).trans h2⟩
  · obtain ⟨h1, h2⟩ := h.mc c e
    refine ⟨h1.keep fun b e2 => ?_, fun b e2 => ?_⟩
    · obtain ⟨_, es, k, h3⟩ := h2 b e2; exact hb.block b (Array.getElem?_eq_some_iff.1 h3).1
    · obtain ⟨h4, es, k, h3⟩ := h2 b e2; exact ⟨h4, es, k, (hb.block b (Array.getElem?_eq_some_iff.1 h3).1).trans h3⟩
  · obtain ⟨zs, h1, h2⟩ := h.mp v e
    exact ⟨zs, OwnS.below h1 hb, h2⟩
theorem PMk.add6 (h : PMk W1 F M fr to wq none o7 oc op) : PMk W1 F M fr to (wq.alloc (.cells #[.map none] 30)) (some wq.heap.size) o7 oc op := by
  have h2 := h.below (wz := wq.alloc (.cells #[.map none] 30)) ((Below.refl _ _).alloc (Nat.le_refl _) _)
  exact ⟨h2.bel, fun b e => by cases e; exact ⟨h.bel.size, Boxed.new _ _ _⟩, h2.m7, h2.mc, h2.mp⟩
theorem PMk.add7 (h : PMk W1 F M fr to wq o6 none oc op) : PMk W1 F M fr to (wq.alloc (.cells #[.slice none 0 0] 27)) o6 (some wq.heap.size) oc op := by
  have h2 := h.below (wz := wq.alloc (.cells #[.slice none 0 0] 27)) ((Below.refl _ _).alloc (Nat.le_refl _) _)
  exact ⟨h2.bel, h2.m6, fun b e => by cases e; exact ⟨h.bel.size, Boxed.new _ _ _⟩, h2.mc, h2.mp⟩
theorem owns_obj {w : World} {b n : Nat} {D : DataW Unit} (h : w.ownsMap Try.prog 9 verR b n D) : ∃ es k, w.heap[b]? = some (.map es k) := by
  obtain ⟨es, clock, hb, _⟩ := h; exact ⟨es, clock, hb⟩
theorem PMk.addC (h : PMk W1 F M fr to wq o6 o7 none op) {mc : Option Nat} (hb : Below wq.heap.size wq wz) (hc : CopyW wz mc M) (hl : ∀ b, mc = some b → wq.heap.size ≤ b ∧ b < wz.heap.size) : PMk W1 F M fr to wz o6 o7 (some mc) op := by
  have h2 := h.below hb
  refine ⟨h2.bel, h2.m6, h2.m7, fun c e => ?_, h2.mp⟩
  cases e
  exact ⟨hc, fun b e => ⟨Nat.le_trans h.bel.size (hl b e).1, owns_obj (hc.2.1 b e)⟩⟩
theorem PMk.addP (h : PMk W1 F M fr to wq o6 o7 oc none) {v : Option Addr × Nat × Nat} {zs : List Vn} (hb : Below wq.heap.size wq wz) (ho : OwV wz wq.heap.size (.slice v.1 v.2.1 v.2.2) zs) (hv : ∀ y ∈ zs, ValF W1 F y ∧ y ∈ M) (hs : saysV zs = putsW (saysV M) fr to) (hn : v.2.1 = zs.length) : PMk W1 F M fr to wz o6 o7 oc (some v) := by
  have h2 := h.below hb
  refine ⟨h2.bel, h2.m6, h2.m7, h2.mc, fun u e => ?_⟩
  cases e
  exact ⟨zs, OwnS.mono ho h.bel.size, hv, hs, hn⟩
theorem PMk.put6 (h : PMk W1 F M fr to wq none o7 oc op) : ∃ z, z = wq.alloc (.cells #[.map none] 30) ∧ PMk W1 F M fr to z (some wq.heap.size) o7 oc op := ⟨_, rfl, h.add6⟩
theorem PMk.put7 (h : PMk W1 F M fr to wq o6 none oc op) : ∃ z, z = wq.alloc (.cells #[.slice none 0 0] 27) ∧ PMk W1 F M fr to z o6 (some wq.heap.size) oc op := ⟨_, rfl, h.add7⟩
/-- The two stores. -/
theorem PMk.fin {b6 b7 : Nat} {mc : Option Nat} {v : Option Addr × Nat × Nat} (h : PMk W1 F M fr to wq (some b6) (some b7) (some mc) (some v)) :
    Boxed wq b6 30 (.map none) ∧ Boxed (wq.setCell ⟨b6, 0, none⟩ (.map mc)) b7 27 (.slice none 0 0) ∧ Below W1.heap.size W1 (wq.setCell ⟨b6, 0, none⟩ (.map mc)) ∧ ∃ zs, PFin W1 F M fr to ((wq.setCell ⟨b6, 0, none⟩ (.map mc)).setCell ⟨b7, 0, none⟩ (.slice v.1 v.2.1 v.2.2)) b6 b7 mc v.1 v.2.1 v.2.2 zs := by
  obtain ⟨l6, x6⟩ := h.m6 b6 rfl
  obtain ⟨l7, x7⟩ := h.m7 b7 rfl
  obtain ⟨hc, hcl⟩ := h.mc mc rfl
  obtain ⟨zs, ho, hv, hs, hn⟩ := h.mp v rfl
  have hne : b7 ≠ b6 := fun e => by
    rw [e] at x7
    have := (show wq.heap[b6]? = _ from x6).symm.trans (show wq.heap[b6]? = _ from x7); cases this
  have y7 := x7.other hne (.map mc)
  have y6 := x6.set (.map mc)
  have oth : ∀ j, j ≠ b6 → j ≠ b7 → ((wq.setCell ⟨b6, 0, none⟩ (.map mc)).setCell ⟨b7, 0, none⟩ (.slice v.1 v.2.1 v.2.2)).heap[j]? = wq.heap[j]? := fun j h6 h7 => by
    rw [Below.heap_setCell _ _ _ _ h7, Below.heap_setCell _ _ _ _ h6]
  have hmap : ∀ b es k, wq.heap[b]? = some (.map es k) → b ≠ b6 ∧ b ≠ b7 := fun b es k hb => ⟨fun e => (by rw [e, show wq.heap[b6]? = _ from x6] at hb; cases hb), fun e => (by rw [e, show wq.heap[b7]? = _ from x7] at hb; cases hb)⟩
  refine ⟨x6, y7, h.bel.setCell (p := ⟨b6, 0, none⟩) l6 _, zs, (h.bel.setCell (p := ⟨b6, 0, none⟩) l6 _).setCell (p := ⟨b7, 0, none⟩) l7 _, y6.other (Ne.symm hne) _, y7.set _, l6, l7, hc.keep fun b e => ?_, fun b e => ?_, OwnS.keep ho fun j hj => ?_, hv, hs, hn⟩
  · obtain ⟨_, es, k, h3⟩ := hcl b e
    obtain ⟨h4, h5⟩ := hmap b es k h3
    exact oth b h4 h5
  · obtain ⟨h6, es, k, h3⟩ := hcl b e
    obtain ⟨h4, h5⟩ := hmap b es k h3
    exact ⟨h6, es, k, (oth b h4 h5).trans h3⟩
  · obtain ⟨cur, h3⟩ := OwnS.type ho hj
    exact oth j (fun e => by rw [e, show wq.heap[b6]? = _ from x6] at h3; cases h3) (fun e => by rw [e, show wq.heap[b7]? = _ from x7] at h3; cases h3)
end

end Go.Proofs.Ytbafjkanbbcbgaa
