/- What an area answers hangs on that area; two disks beside one another. -/
import Derived.Test.YtjmfmbeijbbdoaaBy8
namespace Go.Proofs.Ytjmfmbeijbbdoaa
open Go.RowKit

theorem and15 (x : Int) : ∃ m : Nat, m ≤ 15 ∧ bits BinOp.and IntKind.i64 x 15 = (m : Int) := by
  have h : (BitVec.ofInt 64 x &&& BitVec.ofInt 64 15).toNat ≤ 15 := by
    rw [BitVec.toNat_and]
    exact Nat.le_trans Nat.and_le_right (by decide)
  refine ⟨_, h, ?_⟩
  show IntKind.i64.wrap (((BitVec.ofInt 64 x &&& BitVec.ofInt 64 15).toNat : Nat) : Int) = _
  rw [IntKind.wrap_i64]
  omega

/-- A call of another area, or of none, leaves this one as it was. -/
theorem calS_else (am : Bool) (n i : Nat) (s : Nat → Pt) (x : Cal) (h7 : x.k ≠ 7) (h8 : x.k ≠ 8) (h : ¬ (0 ≤ x.k ∧ x.k ≤ 6 ∧ x.i = (i : Int))) : (calS am n s x).2.1 = am ∧ (calS am n s x).2.2 i = s i := by
  unfold calS
  split
  · next hk =>
    split
    · next hi =>
      have hne : i ≠ x.i.toNat := fun e => h ⟨hk.1, by omega, by have := inD_iff hi; omega⟩
      exact ⟨rfl, upd_ne _ _ _ hne⟩
    · exact ⟨rfl, rfl⟩
  · split
    · exact ⟨rfl, rfl⟩
    · split
      · exact ⟨rfl, rfl⟩
      · split
        · exact ⟨rfl, rfl⟩
        · split
          · exact ⟨rfl, rfl⟩
          · split <;> exact ⟨rfl, rfl⟩
/-- A call of this area: what is answered, and what is left, hangs on it alone. -/
theorem calS_same (am : Bool) (n i : Nat) (s s' : Nat → Pt) (x : Cal) (hi : i < n) (he : s i = s' i) (h : 0 ≤ x.k ∧ x.k ≤ 6 ∧ x.i = (i : Int)) : (calS am n s x).1 = (calS am n s' x).1 ∧ (calS am n s x).2.1 = am ∧ (calS am n s' x).2.1 = am ∧ (calS am n s x).2.2 i = (calS am n s' x).2.2 i := by
  have hin : inD n x.i = true := by unfold inD; simp; omega
  have ht : x.i.toNat = i := by omega
  unfold calS
  by_cases hk : 0 ≤ x.k ∧ x.k ≤ 3
  · rw [if_pos hk, if_pos hk, if_pos hin, if_pos hin, ht, he]
    exact ⟨rfl, rfl, rfl, (upd_at _ _ _).trans (upd_at _ _ _).symm⟩
  · rw [if_neg hk, if_neg hk]
    have h3 : x.k = 4 ∨ x.k = 5 ∨ x.k = 6 := by omega
    rcases h3 with e | e | e
    · rw [if_pos e, if_pos e]
      refine ⟨?_, rfl, rfl, he⟩
      unfold readA
      rw [if_pos hin, if_pos hin, ht, he]
    · rw [if_neg (by omega), if_pos e, if_neg (by omega), if_pos e]
      refine ⟨?_, rfl, rfl, he⟩
      unfold boundsA
      rw [if_pos hin, if_pos hin, ht, he]
    · rw [if_neg (by omega), if_neg (by omega), if_pos e, if_neg (by omega), if_neg (by omega), if_pos e]
      refine ⟨?_, rfl, rfl, he⟩
      show ({ ans0 0 with X := doneA n s x.i } : Ans) = { ans0 0 with X := doneA n s' x.i }
      unfold doneA
      rw [if_pos hin, if_pos hin, ht, he]
/-- Armed by the fates, and by a list with this area's fate alone. -/
theorem arm_same (n i m : Nat) (s s' : Nat → Pt) (f f' : Nat → Fte) (hi : i < n) (he : s i = s' i) (hf : f' i = if i < m then f i else ⟨0, 0, 0⟩) : armTo s m f n i = armTo s' n f' n i := by
  unfold armTo
  rw [if_pos hi, if_pos hi, he]
  unfold armX
  rw [if_pos hi, if_pos hi, if_pos hi, hf]
  by_cases h : i < m
  · rw [if_pos h, if_pos h, if_pos h, if_pos h]
  · rw [if_neg h, if_neg h, if_neg h, if_neg h]
theorem strike_same (n i : Nat) (s s' : Nat → Pt) (hi : i < n) (he : s i = s' i) : strS s n i = strS s' n i := by
  unfold strS armTo strTo
  rw [if_pos hi, if_pos hi, if_pos hi, if_pos hi, he]

/-- Two disks that know nothing of each other. -/
structure Tw (w0 w : World) (p q : Nat) (am : Bool) (n i T : Nat) (F G : Nat → Prop) (s s' : Nat → Pt) : Prop where
  d1 : Dsk w F p am n s
  d2 : Dsk w G q am n s'
  far : ∀ b, F b → ¬ G b
  f1 : ∀ b, F b → w0.heap.size ≤ b
  f2 : ∀ b, G b → w0.heap.size ≤ b
  same : s i = s' i
  b1 : Bnd T n s
  b2 : Bnd T n s'
  bel : Below w0.heap.size w0 w
section
variable {w0 w w' : World} {p q : Nat} {am : Bool} {n i T : Nat} {F G : Nat → Prop} {s s' : Nat → Pt}
theorem Tw.below (h : Tw w0 w p q am n i T F G s s') (hb : Below w.heap.size w w') : Tw w0 w' p q am n i T F G s s' :=
  ⟨h.d1.below hb, h.d2.below hb, h.far, h.f1, h.f2, h.same, h.b1, h.b2, h.bel.trans (hb.mono h.bel.size)⟩
theorem Tw.more {T' : Nat} (h : Tw w0 w p q am n i T F G s s') (hT : T ≤ T') : Tw w0 w p q am n i T' F G s s' :=
  ⟨h.d1, h.d2, h.far, h.f1, h.f2, h.same, h.b1.mono hT, h.b2.mono hT, h.bel⟩
/-- A call of the first. -/
theorem Tw.first {am1 : Bool} {s1 : Nat → Pt} (h : Tw w0 w p q am n i T F G s s') (hw : Went w F p am1 n s1 w') : Dsk w' (upto F w w') p am1 n s1 ∧ Dsk w' G q am n s' ∧ (∀ b, upto F w w' b → ¬ G b) ∧ (∀ b, upto F w w' b → w0.heap.size ≤ b) ∧ Below w0.heap.size w0 w' := by
  have hs := h.bel.size
  refine ⟨hw.dsk, h.d2.chg hw.chg (fun b hb hf => h.far b hf hb), upto_far h.far h.d2.lt, fun b hb => ?_, h.bel.trans (hw.chg.below h.f1 hs)⟩
  rcases hb with hb | hb
  · exact h.f1 b hb
  · omega
end
/-- A call of the second. -/
theorem Dsk.second {w0 w w' : World} {p q : Nat} {am am1 : Bool} {n : Nat} {F G : Nat → Prop} {s s1 : Nat → Pt} (h1 : Dsk w F p am n s) (hfar : ∀ b, F b → ¬ G b) (f2 : ∀ b, G b → w0.heap.size ≤ b) (hb : Below w0.heap.size w0 w) (hw : Went w G q am1 n s1 w') :
    Dsk w' F p am n s ∧ Dsk w' (upto G w w') q am1 n s1 ∧ (∀ b, F b → ¬ upto G w w' b) ∧ (∀ b, upto G w w' b → w0.heap.size ≤ b) ∧ Below w0.heap.size w0 w' := by
  have hs := hb.size
  refine ⟨h1.chg hw.chg hfar, hw.dsk, fun b hf hg => ?_, fun b hg => ?_, hb.trans (hw.chg.below f2 hs)⟩
  · rcases hg with hg | hg
    · exact hfar b hf hg
    · have := h1.lt b hf; omega
  · rcases hg with hg | hg
    · exact f2 b hg
    · omega

theorem RowT.cut {w : World} {base b o n : Nat} {T : Nat → Nat × List Nat} (h : RowT w base (some ⟨b, o, none⟩) n T) {i : Nat} (hi : i < n) : RowT w base (some ⟨b, o + i * 2, none⟩) 1 (fun _ => T i) := by
  obtain ⟨b', o', e, h1, h2, h3⟩ := h.resolve_left (by omega)
  cases e
  refine .inr ⟨b, o + i * 2, rfl, h1, h2, fun j hj => ?_⟩
  obtain rfl : j = 0 := by omega
  obtain ⟨ra, rc, q1, q2, q3, q4⟩ := h3 i hi
  exact ⟨ra, rc, by simpa using q1, by simpa using q2, q3, q4⟩
theorem infoFate : (Try.prog.info? 54).map (fun i => (i.zero.map Value.cells, i.size, i.bytes)) = some (some #[.int .i64 0, .int .i64 0, .int .u8 0], 3, 24) := by kernel_rfl
/-- A list of fates, all zero, with one of them laid. -/
theorem rowF_made (w : World) (n i : Nat) (hi : i < n) (f : Fte) : RowF (w.alloc (.cells ((((madeCells #[.int .i64 0, .int .i64 0, .int .u8 0] (n * 3)).setIfInBounds (i * 3) (.int .i64 f.d)).setIfInBounds (i * 3 + 1) (.int .i64 f.k)).setIfInBounds (i * 3 + 2) (.int .u8 (f.t : Int))) 54)) (some ⟨w.heap.size, 0, none⟩) n (fun j => if j = i then f else ⟨0, 0, 0⟩) := by
  have h1 := heap_alloc_new w (.cells ((((madeCells #[.int .i64 0, .int .i64 0, .int .u8 0] (n * 3)).setIfInBounds (i * 3) (.int .i64 f.d)).setIfInBounds (i * 3 + 1) (.int .i64 f.k)).setIfInBounds (i * 3 + 2) (.int .u8 (f.t : Int))) 54)
  have hsz := size_madeCells #[.int .i64 0, .int .i64 0, .int .u8 0] (n * 3)
  refine .inr ⟨w.heap.size, 0, rfl, by simp, fun j hj => ?_⟩
  have m0 := made_at #[.int .i64 0, .int .i64 0, .int .u8 0] n 3 j 0 rfl hj (by omega)
  have m1 := made_at #[.int .i64 0, .int .i64 0, .int .u8 0] n 3 j 1 rfl hj (by omega)
  have m2 := made_at #[.int .i64 0, .int .i64 0, .int .u8 0] n 3 j 2 rfl hj (by omega)
  rw [cell_of_row _ _ _ _ _ _ h1, cell_of_row _ _ _ _ _ _ h1, cell_of_row _ _ _ _ _ _ h1]
  simp only [Nat.zero_add]
  by_cases e : j = i
  · subst e
    rw [if_pos rfl]
    refine ⟨?_, ?_, ?_⟩
    · rw [Array.getElem?_setIfInBounds_ne (by omega), Array.getElem?_setIfInBounds_ne (by omega), Array.getElem?_setIfInBounds_self_of_lt (by omega)]
    · rw [Array.getElem?_setIfInBounds_ne (by omega), Array.getElem?_setIfInBounds_self_of_lt (by simp; omega)]
    · rw [Array.getElem?_setIfInBounds_self_of_lt (by simp; omega)]
  · rw [if_neg e]
    refine ⟨?_, ?_, ?_⟩
    · rw [Array.getElem?_setIfInBounds_ne (by omega), Array.getElem?_setIfInBounds_ne (by omega), Array.getElem?_setIfInBounds_ne (by omega)]; exact m0
    · rw [Array.getElem?_setIfInBounds_ne (by omega), Array.getElem?_setIfInBounds_ne (by omega), Array.getElem?_setIfInBounds_ne (by omega)]; exact m1
    · rw [Array.getElem?_setIfInBounds_ne (by omega), Array.getElem?_setIfInBounds_ne (by omega), Array.getElem?_setIfInBounds_ne (by omega)]; exact m2
theorem rowF_zero (w : World) (n : Nat) : RowF (w.alloc (.cells (madeCells #[.int .i64 0, .int .i64 0, .int .u8 0] (n * 3)) 54)) (some ⟨w.heap.size, 0, none⟩) n (fun _ => ⟨0, 0, 0⟩) := by
  have h0 := heap_alloc_new w (.cells (madeCells #[.int .i64 0, .int .i64 0, .int .u8 0] (n * 3)) 54)
  refine .inr ⟨w.heap.size, 0, rfl, by simp, fun j hj => ?_⟩
  have m0 := made_at #[.int .i64 0, .int .i64 0, .int .u8 0] n 3 j 0 rfl hj (by omega)
  have m1 := made_at #[.int .i64 0, .int .i64 0, .int .u8 0] n 3 j 1 rfl hj (by omega)
  have m2 := made_at #[.int .i64 0, .int .i64 0, .int .u8 0] n 3 j 2 rfl hj (by omega)
  rw [cell_of_row _ _ _ _ _ _ h0, cell_of_row _ _ _ _ _ _ h0, cell_of_row _ _ _ _ _ _ h0]
  simp only [Nat.zero_add]
  exact ⟨m0, m1, m2⟩

end Go.Proofs.Ytjmfmbeijbbdoaa
