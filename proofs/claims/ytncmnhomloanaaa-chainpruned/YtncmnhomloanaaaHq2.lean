/- What a Prune leaves, asked at or above its horizon; two chains beside each other. -/
import Derived.Test.YtncmnhomloanaaaHq1
namespace Go.Proofs.Ytncmnhomloanaaa
open Go.RowKit

theorem pru_len (xs : List Lk) (h : Int) : (pruL xs h).length + pruN xs h = xs.length := by
  have := upN_le xs h
  unfold pruL pruN
  rw [List.length_drop]; omega
theorem pru_up {xs : List Lk} (hg : Good xs) {h s : Int} (hs : h ≤ s) : pruN xs h ≤ upN xs s ∧ upN (pruL xs h) s = upN xs s - pruN xs h := by
  obtain ⟨h1, h2⟩ := hg.up h
  obtain ⟨s1, s2⟩ := hg.up s
  have hle := upN_le xs h
  have sle := upN_le xs s
  have hm : upN xs h ≤ upN xs s := by
    refine Classical.byContradiction fun hno => ?_
    have := h1 (upN xs s) (by omega)
    have := s2 (upN xs s) (Nat.le_refl _) (by omega)
    omega
  refine ⟨by unfold pruN; omega, upN_eq ?_ (fun i hi => ?_) (fun i h3 h4 => ?_)⟩
  · have := pru_len xs h; omega
  · unfold pruL; rw [lk_drop]; exact s1 _ (by omega)
  · have := pru_len xs h
    unfold pruL; rw [lk_drop]; exact s2 _ (by unfold pruN at *; omega) (by omega)
theorem pru_at {xs : List Lk} (hg : Good xs) {h s : Int} (hs : h ≤ s) : lastK (pruL xs h) (upN (pruL xs h) s) = lastK xs (upN xs s) ∧ decide (0 < upN (pruL xs h) s) = decide (0 < upN xs s) := by
  obtain ⟨a, b⟩ := pru_up hg hs
  rw [b]
  by_cases h0 : upN xs h = 0
  · have e : pruN xs h = 0 := by unfold pruN; omega
    unfold pruL
    rw [e]
    exact ⟨rfl, rfl⟩
  · have hm : upN xs h ≤ upN xs s := by
      obtain ⟨h1, h2⟩ := hg.up h
      obtain ⟨s1, s2⟩ := hg.up s
      refine Classical.byContradiction fun hno => ?_
      have := h1 (upN xs s) (by omega)
      have := s2 (upN xs s) (Nat.le_refl _) (by have := upN_le xs h; omega)
      omega
    have e : upN xs h = pruN xs h + 1 := by unfold pruN; omega
    refine ⟨?_, by rw [decide_eq_true (by omega), decide_eq_true (by omega)]⟩
    unfold lastK
    rw [if_neg (by omega), if_neg (by omega)]
    unfold pruL
    rw [lk_drop]
    congr 1; omega
theorem pru_last {xs : List Lk} (h : Int) : lastK (pruL xs h) (pruL xs h).length = lastK xs xs.length ∧ decide (0 < (pruL xs h).length) = decide (0 < xs.length) := by
  have := pru_len xs h
  have hle := upN_le xs h
  have hp : pruN xs h = upN xs h - 1 := rfl
  by_cases h0 : xs.length = 0
  · have : xs = [] := List.eq_nil_of_length_eq_zero h0
    subst this
    exact ⟨rfl, rfl⟩
  · refine ⟨?_, by rw [decide_eq_true (by omega), decide_eq_true (by omega)]⟩
    unfold lastK
    rw [if_neg (by omega), if_neg (by omega)]
    unfold pruL
    rw [lk_drop, List.length_drop]
    congr 1; omega
theorem pru_twice {xs : List Lk} (hg : Good xs) (h : Int) : pruN (pruL xs h) h = 0 ∧ pruL (pruL xs h) h = pruL xs h := by
  obtain ⟨_, b⟩ := pru_up hg (Int.le_refl h)
  have e : pruN (pruL xs h) h = 0 := by
    have : pruN (pruL xs h) h = upN (pruL xs h) h - 1 := rfl
    rw [this, b]
    unfold pruN; omega
  refine ⟨e, ?_⟩
  have : pruL (pruL xs h) h = (pruL xs h).drop (pruN (pruL xs h) h) := rfl
  rw [this, e]; rfl

/-- Two chains apart, in what was made since w. -/
structure Ab (w wr : World) (pa : Nat) (ys : List Lk) (pb : Nat) (xs : List Lk) : Prop where
  two : ∃ Fa Fb va vb, Hn wr Fa pa va ys ∧ Hn wr Fb pb vb xs ∧ (∀ j, Fa j → ¬ Fb j) ∧ (∀ j, Fa j → w.heap.size ≤ j ∧ j < wr.heap.size) ∧ (∀ j, Fb j → w.heap.size ≤ j ∧ j < wr.heap.size)
  bel : Below w.heap.size w wr
theorem Ab.below {w wr w' : World} {pa pb : Nat} {xs ys : List Lk} (h : Ab w wr pa ys pb xs) (hb : Below wr.heap.size wr w') : Ab w w' pa ys pb xs := by
  obtain ⟨Fa, Fb, va, vb, h1, h2, h3, h4, h5⟩ := h.two
  have hs := hb.size
  exact ⟨⟨Fa, Fb, va, vb, h1.below hb, h2.below hb, h3, fun j hj => ⟨(h4 j hj).1, by have := (h4 j hj).2; omega⟩, fun j hj => ⟨(h5 j hj).1, by have := (h5 j hj).2; omega⟩⟩, h.bel.trans (hb.mono h.bel.size)⟩
theorem Ab.prune {w wr : World} {pa pb : Nat} {xs ys : List Lk} (h : Ab w wr pa ys pb xs) (hl : ys.length ≤ 4000000000000) (s : Int) :
    Calls Try.prog 15 #[.pointer (some ⟨pa, 0, none⟩), .int .i64 s] wr fun e w' => e = .returned (.int .i64 (pruN ys s : Int)) ∧ Ab w w' pa (pruL ys s) pb xs := by
  obtain ⟨Fa, Fb, va, vb, h1, h2, h3, h4, h5⟩ := h.two
  refine (prune_any h1 hl s).mono fun e w' ⟨he, k⟩ => ⟨he, ?_⟩
  obtain ⟨va', hv⟩ := k.hn
  have hs := k.chg.size
  have hw := h.bel.size
  refine ⟨⟨_, Fb, va', vb, ⟨hv.blk, hv.own, hv.good, .inl h1.fp, hv.fv⟩, h2.chg k.chg fun j a b => h3 j a b, fun j a b => ?_, fun j hj => ?_, fun j hj => ⟨(h5 j hj).1, by have := (h5 j hj).2; omega⟩⟩, h.bel.trans (k.chg.below (fun j hj => (h4 j hj).1) hw)⟩
  · rcases a with a | ⟨a, _⟩
    · exact h3 j a b
    · have := (h5 j b).2; omega
  · rcases hj with hj | ⟨a, b⟩
    · have := h4 j hj; omega
    · omega
theorem Ab.lenA {w wr : World} {pa pb : Nat} {xs ys : List Lk} (h : Ab w wr pa ys pb xs) : Calls Try.prog 16 #[.pointer (some ⟨pa, 0, none⟩)] wr fun e w' => e = .returned (.int .i64 (ys.length : Int)) ∧ w' = wr := by
  obtain ⟨Fa, Fb, va, vb, h1, _⟩ := h.two
  exact len_any h1
theorem Ab.lenB {w wr : World} {pa pb : Nat} {xs ys : List Lk} (h : Ab w wr pa ys pb xs) : Calls Try.prog 16 #[.pointer (some ⟨pb, 0, none⟩)] wr fun e w' => e = .returned (.int .i64 (xs.length : Int)) ∧ w' = wr := by
  obtain ⟨Fa, Fb, va, vb, _, h2, _⟩ := h.two
  exact len_any h2
theorem Ab.atA {w wr : World} {pa pb : Nat} {xs ys : List Lk} (h : Ab w wr pa ys pb xs) (hl : ys.length ≤ 4000000000000) (s : Int) : Calls Try.prog 11 #[.pointer (some ⟨pa, 0, none⟩), .int .i64 s] wr fun e w' => e = tellL (lastK ys (upN ys s)) (decide (0 < upN ys s)) ∧ Below wr.heap.size wr w' := by
  obtain ⟨Fa, Fb, va, vb, h1, _⟩ := h.two
  exact at_any h1 hl s
theorem Ab.atB {w wr : World} {pa pb : Nat} {xs ys : List Lk} (h : Ab w wr pa ys pb xs) (hl : xs.length ≤ 4000000000000) (s : Int) : Calls Try.prog 11 #[.pointer (some ⟨pb, 0, none⟩), .int .i64 s] wr fun e w' => e = tellL (lastK xs (upN xs s)) (decide (0 < upN xs s)) ∧ Below wr.heap.size wr w' := by
  obtain ⟨Fa, Fb, va, vb, _, h2, _⟩ := h.two
  exact at_any h2 hl s
theorem Ab.lastA {w wr : World} {pa pb : Nat} {xs ys : List Lk} (h : Ab w wr pa ys pb xs) (hl : ys.length ≤ 4000000000000) : Calls Try.prog 12 #[.pointer (some ⟨pa, 0, none⟩)] wr fun e w' => e = tellL (lastK ys ys.length) (decide (0 < ys.length)) ∧ Below wr.heap.size wr w' := by
  obtain ⟨Fa, Fb, va, vb, h1, _⟩ := h.two
  exact last_any h1 hl
theorem Ab.lastB {w wr : World} {pa pb : Nat} {xs ys : List Lk} (h : Ab w wr pa ys pb xs) (hl : xs.length ≤ 4000000000000) : Calls Try.prog 12 #[.pointer (some ⟨pb, 0, none⟩)] wr fun e w' => e = tellL (lastK xs xs.length) (decide (0 < xs.length)) ∧ Below wr.heap.size wr w' := by
  obtain ⟨Fa, Fb, va, vb, _, h2, _⟩ := h.two
  exact last_any h2 hl

end Go.Proofs.Ytncmnhomloanaaa
