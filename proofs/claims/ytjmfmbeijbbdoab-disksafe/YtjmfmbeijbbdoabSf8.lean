/- What is safe stays: bytes that a disk's areas begin with. -/
import Derived.Test.YtjmfmbeijbbdoabBy8
namespace Go.Proofs.Ytjmfmbeijbbdoab
open Go.RowKit

theorem crash_take {bs : List Nat} {k c t m : Nat} (hm : m ≤ k) (hk : k + c ≤ bs.length) : (crashB bs k c t).take m = bs.take m := by
  have h1 : (bs.take (k + c)).take m = bs.take m := by rw [List.take_take, Nat.min_eq_left (by omega)]
  unfold crashB
  by_cases hc : 0 < c
  · rw [if_pos hc]
    unfold tear
    rw [List.take_set, h1, List.set_eq_of_length_le]
    rw [List.length_take, List.length_take]
    omega
  · rw [if_neg hc]; exact h1

/-- These bytes stand ahead of all others of the area, and are safe. -/
def Pre (z : List Nat) (x : Pt) : Prop := z.length ≤ x.k ∧ x.bs.take z.length = z
theorem Pre.none (x : Pt) : Pre [] x := ⟨Nat.zero_le _, rfl⟩
theorem Pre.full {x : Pt} (h : x.k = x.bs.length) : Pre x.bs x := ⟨by omega, List.take_length⟩
theorem Pre.op {z : List Nat} {x : Pt} (h : Pre z x) (hk : x.k ≤ x.bs.length) (am : Bool) (kd : Nat) (hkd : kd ≤ 1) (A : Int) (zs : List Nat) : Pre z (opS am x kd A zs).2 := by
  unfold opS
  split
  · exact h
  · unfold opX
    have h2 : kd = 0 ∨ kd = 1 := by omega
    rcases h2 with rfl | rfl
    · refine ⟨h.1, ?_⟩
      show (x.bs ++ zs).take z.length = z
      rw [List.take_append_of_le_length (Nat.le_trans h.1 hk)]
      exact h.2
    · exact ⟨Nat.le_trans h.1 hk, h.2⟩
theorem Pre.arm {z : List Nat} {s : Nat → Pt} {i : Nat} (h : Pre z (s i)) (m : Nat) (f : Nat → Fte) (n : Nat) : Pre z (armTo s m f n i) := by
  unfold armTo
  split
  · exact h
  · exact h
theorem Pre.str {z : List Nat} {x : Pt} (h : Pre z x) (hk : x.k ≤ x.bs.length) : Pre z (strX x) := by
  have h1 : x.k + kpt x ≤ x.bs.length := by unfold kpt; omega
  refine ⟨?_, ?_⟩
  · show z.length ≤ x.k + kpt x
    have := h.1
    omega
  · show (crashB x.bs x.k (kpt x) x.ft).take z.length = z
    rw [crash_take h.1 h1]
    exact h.2
theorem Pre.strike {z : List Nat} {s : Nat → Pt} {i n : Nat} (h : Pre z (s i)) (hk : (s i).k ≤ (s i).bs.length) (hi : i < n) : Pre z (strS s n i) := by
  refine Pre.arm ?_ _ _ _
  unfold strTo
  rw [if_pos hi]
  exact h.str hk
theorem strike_full {s : Nat → Pt} {i n : Nat} (hk : (s i).k ≤ (s i).bs.length) (hi : i < n) : (strS s n i).k = (strS s n i).bs.length := by
  unfold strS armTo strTo
  rw [if_pos hi, if_pos hi]
  show (s i).k + kpt (s i) = (crashB (s i).bs (s i).k (kpt (s i)) (s i).ft).length
  rw [crashB_len _ _ _ _ (by unfold kpt; omega)]
/-- A call that neither cuts nor trims. -/
theorem Pre.call {z : Nat → List Nat} {s : Nat → Pt} {n : Nat} (h : ∀ i, i < n → Pre (z i) (s i)) (hk : ∀ i, i < n → (s i).k ≤ (s i).bs.length) (am : Bool) (x : Cal) (h2 : x.k ≠ 2) (h3 : x.k ≠ 3) : ∀ i, i < n → Pre (z i) ((calS am n s x).2.2 i) := fun i hi => by
  unfold calS
  split
  · next hq =>
    split
    · show Pre (z i) (upd s x.i.toNat _ i)
      by_cases e : i = x.i.toNat
      · subst e
        rw [upd_at]
        exact (h _ hi).op (hk _ hi) am _ (by omega) _ _
      · rw [upd_ne _ _ _ e]; exact h i hi
    · exact h i hi
  · split
    · exact h i hi
    · split
      · exact h i hi
      · split
        · exact h i hi
        · split
          · exact (h i hi).arm _ _ _
          · split
            · exact (h i hi).strike (hk i hi) hi
            · split
              · exact h i hi
              · split <;> exact h i hi

/-- Behind a Sync that was done all bytes of its area are safe. -/
theorem sync_full (am : Bool) (s : Nat → Pt) (x : Cal) (e : x.k = 1) (he : (calS am 2 s x).1.E = 0) : 0 ≤ x.i ∧ x.i < 2 ∧ ((calS am 2 s x).2.2 x.i.toNat).k = ((calS am 2 s x).2.2 x.i.toNat).bs.length := by
  have h4 : 0 ≤ x.k ∧ x.k ≤ 3 := by omega
  unfold calS at he ⊢
  rw [if_pos h4] at he ⊢
  by_cases hi : inD 2 x.i = true
  · rw [if_pos hi] at he ⊢
    obtain ⟨i1, i2⟩ := inD_iff hi
    refine ⟨by omega, by omega, ?_⟩
    have he' : (opS am (s x.i.toNat) x.k.toNat x.a x.p.p).1 = 0 := he
    show (upd s x.i.toNat _ x.i.toNat).k = (upd s x.i.toNat _ x.i.toNat).bs.length
    rw [upd_at]
    rw [show x.k.toNat = 1 by rw [e]; rfl] at he' ⊢
    unfold opS at he' ⊢
    by_cases hd : down am (s x.i.toNat) = true
    · rw [if_pos hd] at he'; exact absurd (show (80 : Int) = 0 from he') (by decide)
    · rw [if_neg hd]; rfl
  · rw [if_neg hi] at he
    exact absurd (show (81 : Int) = 0 from he) (by decide)

/-- A disk with two areas, made since w0, and beside it an array of two slices: bytes that the areas begin with. -/
structure Sf (w0 w : World) (F : Nat → Prop) (p : Nat) (am : Bool) (s : Nat → Pt) (T g : Nat) (r : Nat → Value) (z : Nat → List Nat) : Prop where
  dsk : Dsk w F p am 2 s
  foot : ∀ b, F b → w0.heap.size ≤ b
  gF : ¬ F g
  gl : w0.heap.size ≤ g
  arr : w.heap[g]? = some (.cells #[r 0, r 1] 50 (0, 0))
  own : ∀ i, i < 2 → OwB w 0 (r i) (z i)
  far : ∀ i, i < 2 → ∀ j, (r i).ownBlock = some j → ¬ F j
  pre : ∀ i, i < 2 → Pre (z i) (s i)
  bnd : Bnd T 2 s
  bel : Below w0.heap.size w0 w
section
variable {w0 w w' : World} {F : Nat → Prop} {p : Nat} {am am1 : Bool} {s s1 : Nat → Pt} {T T' g : Nat} {r : Nat → Value} {z : Nat → List Nat}
theorem Sf.glt (h : Sf w0 w F p am s T g r z) : g < w.heap.size := (Array.getElem?_eq_some_iff.1 h.arr).1
theorem Sf.below (h : Sf w0 w F p am s T g r z) (hb : Below w.heap.size w w') : Sf w0 w' F p am s T g r z :=
  ⟨h.dsk.below hb, h.foot, h.gF, h.gl, (hb.block g h.glt).trans h.arr, fun i hi => (h.own i hi).below hb, h.far, h.pre, h.bnd, h.bel.trans (hb.mono h.bel.size)⟩
theorem Sf.more (h : Sf w0 w F p am s T g r z) (hT : T ≤ T') : Sf w0 w F p am s T' g r z := ⟨h.dsk, h.foot, h.gF, h.gl, h.arr, h.own, h.far, h.pre, h.bnd.mono hT, h.bel⟩
/-- A call of the disk. -/
theorem Sf.went (h : Sf w0 w F p am s T g r z) (hw : Went w F p am1 2 s1 w') (hp : ∀ i, i < 2 → Pre (z i) (s1 i)) (hb : Bnd T' 2 s1) : Sf w0 w' (upto F w w') p am1 s1 T' g r z := by
  have hs := h.bel.size
  have hg := h.glt
  refine ⟨hw.dsk, fun b hb' => ?_, fun hx => ?_, h.gl, (hw.chg.block g hg h.gF).trans h.arr, fun i hi => (h.own i hi).keep fun j hj => hw.chg.block j ((h.own i hi).inside j hj).2 (h.far i hi j hj), fun i hi j hj hx => ?_, hp, hb, h.bel.trans (hw.chg.below h.foot hs)⟩
  · rcases hb' with hb' | hb'
    · exact h.foot b hb'
    · omega
  · rcases hx with hx | hx
    · exact h.gF hx
    · omega
  · rcases hx with hx | hx
    · exact h.far i hi j hj hx
    · have := ((h.own i hi).inside j hj).2; omega
/-- Other bytes are laid into the array. -/
theorem Sf.put (h : Sf w0 w F p am s T g r z) {i : Nat} (hi : i < 2) {u : Value} {bs : List Nat} (ho : OwB w 0 u bs) (hf : ∀ j, u.ownBlock = some j → ¬ F j) (hp : Pre bs (s i)) : Sf w0 (w.setCell ⟨g, i, none⟩ u) F p am s T g (fun k => if k = i then u else r k) (fun k => if k = i then bs else z k) := by
  have hne : ∀ {v : Value} {l : List Nat}, OwB w 0 v l → ∀ j, v.ownBlock = some j → j ≠ g := fun ho j hj e => by
    obtain ⟨cur, hc⟩ := OwnS.type ho hj
    rw [e, h.arr] at hc
    cases hc
  refine ⟨h.dsk.chg (G := fun j => j = g) ((Chg.refl _ w).setCell ⟨g, i, none⟩ _ (fun _ => rfl)) (fun b hb e => h.gF (e ▸ hb)), h.foot, h.gF, h.gl, ?_, fun k hk => ?_, fun k hk j hj => ?_, fun k hk => ?_, h.bnd, h.bel.setCell h.gl _⟩
  · rw [heap_setCell_same w g i _ _ u h.arr]
    have h2 : i = 0 ∨ i = 1 := by omega
    rcases h2 with rfl | rfl <;> rfl
  · by_cases e : k = i
    · rw [if_pos e, if_pos e]; exact ho.keep fun j hj => Below.heap_setCell _ _ _ _ (hne ho j hj)
    · rw [if_neg e, if_neg e]; exact (h.own k hk).keep fun j hj => Below.heap_setCell _ _ _ _ (hne (h.own k hk) j hj)
  · by_cases e : k = i
    · rw [if_pos e] at hj; exact hf j hj
    · rw [if_neg e] at hj; exact h.far k hk j hj
  · by_cases e : k = i
    · rw [if_pos e, e]; exact hp
    · rw [if_neg e]; exact h.pre k hk
/-- The slice at place i of the array. -/
theorem Sf.at_ (h : Sf w0 w F p am s T g r z) {i : Nat} (hi : i < 2) : ∃ a c, r i = .slice a (z i).length c ∧ RowB w a (z i) ∧ (z i).length ≤ c ∧ w.cell? ⟨g, i, none⟩ = some (.slice a (z i).length c) ∧ w.frozen? ⟨g, i, none⟩ = false ∧ (a = none → (z i).length = 0 ∧ c = 0) := by
  obtain ⟨a, c, e, hr, hc, _, hn⟩ := (h.own i hi).row
  refine ⟨a, c, e, hr, hc, ?_, frozen_of_row _ _ _ _ _ h.arr, hn⟩
  rw [cell_of_row _ _ _ _ _ _ h.arr, ← e]
  have h2 : i = 0 ∨ i = 1 := by omega
  rcases h2 with rfl | rfl <;> rfl
end

end Go.Proofs.Ytjmfmbeijbbdoab
