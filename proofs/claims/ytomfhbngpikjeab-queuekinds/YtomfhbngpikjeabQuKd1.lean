/- Three queues and two rows beside each other. -/
import Derived.Test.YtomfhbngpikjeabQp6
import Derived.Test.YtomfhbngpikjeabQu6R
import Derived.Test.YtomfhbngpikjeabQu6L
import Derived.Test.YtomfhbngpikjeabQuRowR
import Derived.Test.YtomfhbngpikjeabQuRowL
import Derived.Test.YtomfhbngpikjeabQuFix
namespace Go.Proofs.Ytomfhbngpikjeab
open Go.RowKit

/-- A row of pairs that came in. -/
def CamePr (w : World) (a : Option Addr) (n : Nat) (T : Nat → Int × Bool) : Prop :=
  (n = 0 ∨ ∃ b o, a = some ⟨b, o, none⟩ ∧ b < w.heap.size ∧ ∀ i, i < n → w.cell? ⟨b, o + i * 2, none⟩ = some (.int .i64 (T i).1) ∧ w.cell? ⟨b, o + i * 2 + 1, none⟩ = some (.bool (T i).2)) ∧ n ≤ 140737488355328
theorem CamePr.here {w w' : World} {a : Option Addr} {n : Nat} {T : Nat → Int × Bool} (h : CamePr w a n T) (hb : Below w.heap.size w w') {i : Nat} (hi : i < n) :
    ∃ b o, a = some ⟨b, o, none⟩ ∧ b < w.heap.size ∧ w'.cell? ⟨b, o + i * 2, none⟩ = some (.int .i64 (T i).1) ∧ w'.cell? ⟨b, o + i * 2 + 1, none⟩ = some (.bool (T i).2) := by
  rcases h.1 with h0 | ⟨b, o, e, hl, hc⟩
  · omega
  · obtain ⟨h1, h2⟩ := hc i hi
    exact ⟨b, o, e, hl, (hb.cell (p := ⟨b, o + i * 2, none⟩) hl).trans h1, (hb.cell (p := ⟨b, o + i * 2 + 1, none⟩) hl).trans h2⟩

/-- What the law holds: three queues and two rows, each in blocks of its own. -/
structure Kin (w0 w : World) (a1 a2 b1 b2 c1 c2 : Nat) (vp vl : Value) (xs : List (Int × Bool)) (pp qq : List (Option Addr)) (ll mm : List (Option Addr × Nat × Nat)) : Prop where
  a : QuP w a1 a2 1000 xs
  b : QuR w b1 b2 1000 pp
  c : QuL w c1 c2 1000 ll
  p : OwR w w0.heap.size vp qq
  l : OwL w w0.heap.size vl mm
  ge : w0.heap.size ≤ a1 ∧ w0.heap.size ≤ a2 ∧ w0.heap.size ≤ b1 ∧ w0.heap.size ≤ b2 ∧ w0.heap.size ≤ c1 ∧ w0.heap.size ≤ c2
  ab : a1 ≠ b1 ∧ a1 ≠ b2 ∧ a2 ≠ b1 ∧ a2 ≠ b2
  ac : a1 ≠ c1 ∧ a1 ≠ c2 ∧ a2 ≠ c1 ∧ a2 ≠ c2
  bc : b1 ≠ c1 ∧ b1 ≠ c2 ∧ b2 ≠ c1 ∧ b2 ≠ c2
  sp : ∀ j, vp.ownBlock = some j → j ≠ a1 ∧ j ≠ a2 ∧ j ≠ b1 ∧ j ≠ b2 ∧ j ≠ c1 ∧ j ≠ c2
  sl : ∀ j, vl.ownBlock = some j → j ≠ a1 ∧ j ≠ a2 ∧ j ≠ b1 ∧ j ≠ b2 ∧ j ≠ c1 ∧ j ≠ c2
  pl : ∀ j, vp.ownBlock = some j → vl.ownBlock ≠ some j
  bl : Below w0.heap.size w0 w

section
variable {w0 w w' : World} {a1 a2 b1 b2 c1 c2 : Nat} {vp vl : Value} {xs : List (Int × Bool)} {pp qq : List (Option Addr)} {ll mm : List (Option Addr × Nat × Nat)}

theorem Kin.below (h : Kin w0 w a1 a2 b1 b2 c1 c2 vp vl xs pp qq ll mm) (hb : Below w.heap.size w w') : Kin w0 w' a1 a2 b1 b2 c1 c2 vp vl xs pp qq ll mm :=
  ⟨h.a.below hb, h.b.below hb, h.c.below hb, h.p.below hb, h.l.below hb, h.ge, h.ab, h.ac, h.bc, h.sp, h.sl, h.pl, h.bl.trans (hb.mono h.bl.size)⟩
theorem Kin.onA (h : Kin w0 w a1 a2 b1 b2 c1 c2 vp vl xs pp qq ll mm) (hO : Only a1 a2 w w') {g : Nat} (hg : g = a2 ∨ w.heap.size ≤ g) {xs2 : List (Int × Bool)} (hQ : QuP w' a1 g 1000 xs2) : Kin w0 w' a1 g b1 b2 c1 c2 vp vl xs2 pp qq ll mm := by
  have gne : ∀ j, j < w.heap.size → a2 ≠ j → g ≠ j := fun j hj hn => by
    rcases hg with e | e
    · rw [e]; exact hn
    · exact Nat.ne_of_gt (Nat.lt_of_lt_of_le hj e)
  have la := h.a.lt
  have lb := h.b.lt
  have lc := h.c.lt
  have hbs := h.bl.size
  obtain ⟨g1, g2, g3, g4, g5, g6⟩ := h.ge
  have gge : w0.heap.size ≤ g := by
    rcases hg with e | e
    · rw [e]; assumption
    · exact Nat.le_trans hbs e
  obtain ⟨x1, x2, x3, x4⟩ := h.ab
  obtain ⟨y1, y2, y3, y4⟩ := h.ac
  obtain ⟨z1, z2, z3, z4⟩ := h.bc
  refine ⟨hQ, h.b.keep (hO.block b1 lb.1 x1.symm x3.symm) (hO.block b2 lb.2 x2.symm x4.symm), h.c.keep (hO.block c1 lc.1 y1.symm y3.symm) (hO.block c2 lc.2 y2.symm y4.symm), h.p.heap fun j hj => hO.block j (h.p.inside j hj) (h.sp j hj).1 (h.sp j hj).2.1, h.l.heap fun j hj => hO.block j (h.l.inside j hj) (h.sl j hj).1 (h.sl j hj).2.1, ⟨g1, gge, g3, g4, g5, g6⟩, ⟨x1, x2, gne b1 lb.1 x3, gne b2 lb.2 x4⟩, ⟨y1, y2, gne c1 lc.1 y3, gne c2 lc.2 y4⟩, h.bc, fun j hj => ?_, fun j hj => ?_, h.pl, h.bl.trans (hO.below (by assumption) (by assumption) hbs)⟩
  · obtain ⟨s1, s2, s3, s4, s5, s6⟩ := h.sp j hj
    exact ⟨s1, (gne j (h.p.inside j hj) s2.symm).symm, s3, s4, s5, s6⟩
  · obtain ⟨s1, s2, s3, s4, s5, s6⟩ := h.sl j hj
    exact ⟨s1, (gne j (h.l.inside j hj) s2.symm).symm, s3, s4, s5, s6⟩
theorem Kin.onB (h : Kin w0 w a1 a2 b1 b2 c1 c2 vp vl xs pp qq ll mm) (hO : Only b1 b2 w w') {g : Nat} (hg : g = b2 ∨ w.heap.size ≤ g) {pp2 : List (Option Addr)} (hQ : QuR w' b1 g 1000 pp2) : Kin w0 w' a1 a2 b1 g c1 c2 vp vl xs pp2 qq ll mm := by
  have gne : ∀ j, j < w.heap.size → b2 ≠ j → g ≠ j := fun j hj hn => by
    rcases hg with e | e
    · rw [e]; exact hn
    · exact Nat.ne_of_gt (Nat.lt_of_lt_of_le hj e)
  have la := h.a.lt
  have lb := h.b.lt
  have lc := h.c.lt
  have hbs := h.bl.size
  obtain ⟨g1, g2, g3, g4, g5, g6⟩ := h.ge
  have gge : w0.heap.size ≤ g := by
    rcases hg with e | e
    · rw [e]; assumption
    · exact Nat.le_trans hbs e
  obtain ⟨x1, x2, x3, x4⟩ := h.ab
  obtain ⟨y1, y2, y3, y4⟩ := h.ac
  obtain ⟨z1, z2, z3, z4⟩ := h.bc
  refine ⟨h.a.keep (hO.block a1 la.1 x1 x2) (hO.block a2 la.2 x3 x4), hQ, h.c.keep (hO.block c1 lc.1 z1.symm z3.symm) (hO.block c2 lc.2 z2.symm z4.symm), h.p.heap fun j hj => hO.block j (h.p.inside j hj) (h.sp j hj).2.2.1 (h.sp j hj).2.2.2.1, h.l.heap fun j hj => hO.block j (h.l.inside j hj) (h.sl j hj).2.2.1 (h.sl j hj).2.2.2.1, ⟨g1, g2, g3, gge, g5, g6⟩, ⟨x1, (gne a1 la.1 x2.symm).symm, x3, (gne a2 la.2 x4.symm).symm⟩, h.ac, ⟨z1, z2, gne c1 lc.1 z3, gne c2 lc.2 z4⟩, fun j hj => ?_, fun j hj => ?_, h.pl, h.bl.trans (hO.below (by assumption) (by assumption) hbs)⟩
  · obtain ⟨s1, s2, s3, s4, s5, s6⟩ := h.sp j hj
    exact ⟨s1, s2, s3, (gne j (h.p.inside j hj) s4.symm).symm, s5, s6⟩
  · obtain ⟨s1, s2, s3, s4, s5, s6⟩ := h.sl j hj
    exact ⟨s1, s2, s3, (gne j (h.l.inside j hj) s4.symm).symm, s5, s6⟩
theorem Kin.onC (h : Kin w0 w a1 a2 b1 b2 c1 c2 vp vl xs pp qq ll mm) (hO : Only c1 c2 w w') {g : Nat} (hg : g = c2 ∨ w.heap.size ≤ g) {ll2 : List (Option Addr × Nat × Nat)} (hQ : QuL w' c1 g 1000 ll2) : Kin w0 w' a1 a2 b1 b2 c1 g vp vl xs pp qq ll2 mm := by
  have gne : ∀ j, j < w.heap.size → c2 ≠ j → g ≠ j := fun j hj hn => by
    rcases hg with e | e
    · rw [e]; exact hn
    · exact Nat.ne_of_gt (Nat.lt_of_lt_of_le hj e)
  have la := h.a.lt
  have lb := h.b.lt
  have lc := h.c.lt
  have hbs := h.bl.size
  obtain ⟨g1, g2, g3, g4, g5, g6⟩ := h.ge
  have gge : w0.heap.size ≤ g := by
    rcases hg with e | e
    · rw [e]; assumption
    · exact Nat.le_trans hbs e
  obtain ⟨x1, x2, x3, x4⟩ := h.ab
  obtain ⟨y1, y2, y3, y4⟩ := h.ac
  obtain ⟨z1, z2, z3, z4⟩ := h.bc
  refine ⟨h.a.keep (hO.block a1 la.1 y1 y2) (hO.block a2 la.2 y3 y4), h.b.keep (hO.block b1 lb.1 z1 z2) (hO.block b2 lb.2 z3 z4), hQ, h.p.heap fun j hj => hO.block j (h.p.inside j hj) (h.sp j hj).2.2.2.2.1 (h.sp j hj).2.2.2.2.2, h.l.heap fun j hj => hO.block j (h.l.inside j hj) (h.sl j hj).2.2.2.2.1 (h.sl j hj).2.2.2.2.2, ⟨g1, g2, g3, g4, g5, gge⟩, h.ab, ⟨y1, (gne a1 la.1 y2.symm).symm, y3, (gne a2 la.2 y4.symm).symm⟩, ⟨z1, (gne b1 lb.1 z2.symm).symm, z3, (gne b2 lb.2 z4.symm).symm⟩, fun j hj => ?_, fun j hj => ?_, h.pl, h.bl.trans (hO.below (by assumption) (by assumption) hbs)⟩
  · obtain ⟨s1, s2, s3, s4, s5, s6⟩ := h.sp j hj
    exact ⟨s1, s2, s3, s4, s5, (gne j (h.p.inside j hj) s6.symm).symm⟩
  · obtain ⟨s1, s2, s3, s4, s5, s6⟩ := h.sl j hj
    exact ⟨s1, s2, s3, s4, s5, (gne j (h.l.inside j hj) s6.symm).symm⟩
theorem Kin.rowP (h : Kin w0 w a1 a2 b1 b2 c1 c2 vp vl xs pp qq ll mm) {v : Value} {q2 : List (Option Addr)} (hg : w.grownBy w' vp.ownBlock) (hown : OwR w' w0.heap.size v q2) (hat : v.ownBlock = vp.ownBlock ∨ ∃ k, v.ownBlock = some k ∧ w.heap.size ≤ k) : Kin w0 w' a1 a2 b1 b2 c1 c2 v vl xs pp q2 ll mm := by
  have la := h.a.lt
  have lb := h.b.lt
  have lc := h.c.lt
  have hk : ∀ i, i < w.heap.size → (∀ j, vp.ownBlock = some j → j ≠ i) → w'.heap[i]? = w.heap[i]? := fun i hi hn => hg.block i hi (fun e => hn i e.symm rfl)
  refine ⟨h.a.keep (hk a1 (by omega) fun j hj => by have := h.sp j hj; omega) (hk a2 (by omega) fun j hj => by have := h.sp j hj; omega), h.b.keep (hk b1 (by omega) fun j hj => by have := h.sp j hj; omega) (hk b2 (by omega) fun j hj => by have := h.sp j hj; omega), h.c.keep (hk c1 (by omega) fun j hj => by have := h.sp j hj; omega) (hk c2 (by omega) fun j hj => by have := h.sp j hj; omega),
    hown, h.l.keep hg (fun j hj e => h.pl j e hj), h.ge, h.ab, h.ac, h.bc, fun j hj => ?_, h.sl, fun j hj => ?_, h.bl.grown hg h.bl.size (fun j e => h.p.ge e)⟩
  · rcases hat with e | ⟨k, e, hk2⟩
    · exact h.sp j (e ▸ hj)
    · rw [e] at hj; cases hj; omega
  · rcases hat with e | ⟨k, e, hk2⟩
    · exact h.pl j (e ▸ hj)
    · rw [e] at hj; cases hj
      intro e2
      have := h.l.inside _ e2
      omega
theorem Kin.rowL (h : Kin w0 w a1 a2 b1 b2 c1 c2 vp vl xs pp qq ll mm) {v : Value} {m2 : List (Option Addr × Nat × Nat)} (hg : w.grownBy w' vl.ownBlock) (hown : OwL w' w0.heap.size v m2) (hat : v.ownBlock = vl.ownBlock ∨ ∃ k, v.ownBlock = some k ∧ w.heap.size ≤ k) : Kin w0 w' a1 a2 b1 b2 c1 c2 vp v xs pp qq ll m2 := by
  have la := h.a.lt
  have lb := h.b.lt
  have lc := h.c.lt
  have hk : ∀ i, i < w.heap.size → (∀ j, vl.ownBlock = some j → j ≠ i) → w'.heap[i]? = w.heap[i]? := fun i hi hn => hg.block i hi (fun e => hn i e.symm rfl)
  refine ⟨h.a.keep (hk a1 (by omega) fun j hj => by have := h.sl j hj; omega) (hk a2 (by omega) fun j hj => by have := h.sl j hj; omega), h.b.keep (hk b1 (by omega) fun j hj => by have := h.sl j hj; omega) (hk b2 (by omega) fun j hj => by have := h.sl j hj; omega), h.c.keep (hk c1 (by omega) fun j hj => by have := h.sl j hj; omega) (hk c2 (by omega) fun j hj => by have := h.sl j hj; omega),
    h.p.keep hg (fun j hj e => h.pl j hj e), hown, h.ge, h.ab, h.ac, h.bc, h.sp, fun j hj => ?_, fun j hj e2 => ?_, h.bl.grown hg h.bl.size (fun j e => h.l.ge e)⟩
  · rcases hat with e | ⟨k, e, hk2⟩
    · exact h.sl j (e ▸ hj)
    · rw [e] at hj; cases hj; omega
  · rcases hat with e | ⟨k, e, hk2⟩
    · exact h.pl j hj (e ▸ e2)
    · rw [e] at e2; cases e2
      have := h.p.inside _ hj
      omega
end

end Go.Proofs.Ytomfhbngpikjeab
