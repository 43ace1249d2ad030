/- Links of a chain: their stamps, which of them count; what Add, Prune and a walk make of them. -/
import Derived.Test.YthaknohnccmfoaaIn1
namespace Go.Proofs.Ythaknohnccmfoaa.kY
open Go.RowKit

/-- A link. -/
structure Lk where
  n : Int
  v : Option Addr × Nat × Nat
  d : Bool
/-- The zero link. -/
def zeroLk : Lk := ⟨0, (none, 0, 0), false⟩
/-- A link as a value; its cells. -/
def lkV (x : Lk) : Value := .agg #[.int .i64 x.n, .slice x.v.1 x.v.2.1 x.v.2.2, .bool x.d]
def triL (x : Lk) : List Value := [.int .i64 x.n, .slice x.v.1 x.v.2.1 x.v.2.2, .bool x.d]
def celL (xs : List Lk) : List Value := xs.flatMap triL
/-- The link i of a list. -/
def lk (xs : List Lk) (i : Nat) : Lk := xs.getD i zeroLk
theorem celL_len (xs : List Lk) : (celL xs).length = xs.length * 3 := by
  induction xs with
  | nil => rfl
  | cons x xs ih => show (triL x ++ celL xs).length = _; rw [List.length_append, ih]; simp [triL]; omega
theorem celL_append (xs ys : List Lk) : celL (xs ++ ys) = celL xs ++ celL ys := by simp [celL]
theorem celL_one (x : Lk) : celL [x] = triL x := by simp [celL]
theorem celL_at {xs : List Lk} : ∀ {i : Nat} (_ : i < xs.length) (j : Nat) (_ : j < 3), (celL xs)[i * 3 + j]? = (triL (lk xs i))[j]? := by
  induction xs with
  | nil => intro i h; simp at h
  | cons x xs ih =>
    intro i h j hj
    show (triL x ++ celL xs)[i * 3 + j]? = _
    cases i with
    | zero => rw [List.getElem?_append_left (by simp [triL]; omega)]; simp [lk]
    | succ i =>
      rw [List.getElem?_append_right (by simp [triL]; omega)]
      have := ih (i := i) (by simpa using h) j hj
      rw [show (i + 1) * 3 + j - (triL x).length = i * 3 + j by simp [triL]; omega, this]
      simp [lk]
theorem lk_get {xs : List Lk} {i : Nat} (hi : i < xs.length) : xs[i] = lk xs i := by
  unfold lk; rw [List.getD_eq_getElem?_getD, List.getElem?_eq_getElem hi]; rfl
theorem lk_opt {xs : List Lk} {i : Nat} (hi : i < xs.length) : xs[i]? = some (lk xs i) := by rw [List.getElem?_eq_getElem hi, lk_get hi]
theorem lk_left {xs ys : List Lk} {i : Nat} (h : i < xs.length) : lk (xs ++ ys) i = lk xs i := by
  unfold lk; rw [List.getD_eq_getElem?_getD, List.getD_eq_getElem?_getD, List.getElem?_append_left h]
theorem lk_last (xs : List Lk) (x : Lk) : lk (xs ++ [x]) xs.length = x := by
  unfold lk; rw [List.getD_eq_getElem?_getD, List.getElem?_append_right (Nat.le_refl _)]; simp
theorem lk_drop (xs : List Lk) (m i : Nat) : lk (xs.drop m) i = lk xs (m + i) := by
  unfold lk; rw [List.getD_eq_getElem?_getD, List.getD_eq_getElem?_getD, List.getElem?_drop]
theorem lk_take {xs : List Lk} {m i : Nat} (h : i < m) : lk (xs.take m) i = lk xs i := by
  unfold lk; rw [List.getD_eq_getElem?_getD, List.getD_eq_getElem?_getD, List.getElem?_take_of_lt h]
theorem lk_rev {xs : List Lk} {i : Nat} (h : i < xs.length) : lk xs.reverse i = lk xs (xs.length - 1 - i) := by
  unfold lk; rw [List.getD_eq_getElem?_getD, List.getD_eq_getElem?_getD, List.getElem?_reverse h]
theorem eq_of_lk {xs ys : List Lk} (hl : xs.length = ys.length) (h : ∀ i, i < xs.length → lk xs i = lk ys i) : xs = ys := by
  apply List.ext_getElem hl
  intro i h1 h2
  rw [lk_get h1, lk_get h2]; exact h i h1

/-- Stamps that rise, from 0 on. -/
structure Good (xs : List Lk) : Prop where
  rise : ∀ i j, i < j → j < xs.length → (lk xs i).n < (lk xs j).n
  low : ∀ i, i < xs.length → 0 ≤ (lk xs i).n ∧ (lk xs i).n ≤ 9223372036854775807
theorem Good.nil : Good [] := ⟨fun i j _ h => by simp at h, fun i h => by simp at h⟩
/-- How many of them have a stamp at or below one. -/
def upN (xs : List Lk) (s : Int) : Nat := (xs.filter fun x => decide (x.n ≤ s)).length
theorem upN_le (xs : List Lk) (s : Int) : upN xs s ≤ xs.length := List.length_filter_le _ _
theorem upN_eq {xs : List Lk} {s : Int} {J : Nat} (hJ : J ≤ xs.length) (h1 : ∀ i, i < J → (lk xs i).n ≤ s) (h2 : ∀ i, J ≤ i → i < xs.length → s < (lk xs i).n) : upN xs s = J := by
  unfold upN
  rw [← List.take_append_drop J xs, List.filter_append, List.length_append]
  have e1 : (xs.take J).filter (fun x => decide (x.n ≤ s)) = xs.take J := by
    rw [List.filter_eq_self]
    intro x hx
    obtain ⟨i, hi, rfl⟩ := List.mem_iff_getElem.1 hx
    rw [List.length_take] at hi
    rw [lk_get (by rw [List.length_take]; exact hi), lk_take (by omega)]
    exact decide_eq_true (h1 i (by omega))
  have e2 : (xs.drop J).filter (fun x => decide (x.n ≤ s)) = [] := by
    rw [List.filter_eq_nil_iff]
    intro x hx
    obtain ⟨i, hi, rfl⟩ := List.mem_iff_getElem.1 hx
    rw [List.length_drop] at hi
    rw [lk_get (by rw [List.length_drop]; exact hi), lk_drop]
    have := h2 (J + i) (by omega) (by omega)
    simp; omega
  rw [e1, e2, List.length_take]; simp; omega
theorem Good.cut {xs : List Lk} (h : Good xs) (s : Int) : ∃ J, J ≤ xs.length ∧ (∀ i, i < J → (lk xs i).n ≤ s) ∧ ∀ i, J ≤ i → i < xs.length → s < (lk xs i).n := by
  suffices hm : ∀ m, m ≤ xs.length → ∃ J, J ≤ m ∧ (∀ i, i < J → (lk xs i).n ≤ s) ∧ ∀ i, J ≤ i → i < m → s < (lk xs i).n by
    exact hm _ (Nat.le_refl _)
  intro m
  induction m with
  | zero => exact fun _ => ⟨0, Nat.le_refl _, fun i hi => by omega, fun i _ hi => by omega⟩
  | succ m ih =>
    intro hm
    obtain ⟨J, hJ, h1, h2⟩ := ih (by omega)
    by_cases e : J = m
    · subst e
      by_cases hs : (lk xs J).n ≤ s
      · exact ⟨J + 1, by omega, fun i hi => by
          by_cases e : i = J
          · subst e; exact hs
          · exact h1 i (by omega), fun i h3 h4 => by omega⟩
      · exact ⟨J, by omega, h1, fun i h3 h4 => by
          obtain rfl : i = J := by omega
          omega⟩
    · exact ⟨J, by omega, h1, fun i h3 h4 => by
        by_cases e : i = m
        · subst e
          have := h2 J (Nat.le_refl _) (by omega)
          have := h.rise J i (by omega) (by omega)
          omega
        · exact h2 i h3 (by omega)⟩
theorem Good.up {xs : List Lk} (h : Good xs) (s : Int) : (∀ i, i < upN xs s → (lk xs i).n ≤ s) ∧ ∀ i, upN xs s ≤ i → i < xs.length → s < (lk xs i).n := by
  obtain ⟨J, hJ, h1, h2⟩ := h.cut s
  rw [upN_eq hJ h1 h2]
  exact ⟨h1, h2⟩

/-- Is a link refused? -/
def refu (xs : List Lk) (x : Lk) : Prop := x.n < 0 ∨ (0 < xs.length ∧ x.n ≤ (lk xs (xs.length - 1)).n)
instance (xs : List Lk) (x : Lk) : Decidable (refu xs x) := by unfold refu; infer_instance
/-- What Add answers, and leaves. -/
def addE (xs : List Lk) (x : Lk) : Int := if refu xs x then 130 else 0
def addL (xs : List Lk) (x : Lk) : List Lk := if refu xs x then xs else xs ++ [x]
theorem addL_len (xs : List Lk) (x : Lk) : xs.length ≤ (addL xs x).length ∧ (addL xs x).length ≤ xs.length + 1 := by
  unfold addL; split <;> simp
theorem Good.add {xs : List Lk} (h : Good xs) {x : Lk} (hx : x.n ≤ 9223372036854775807) : Good (addL xs x) := by
  unfold addL
  split
  · exact h
  · next hr =>
    unfold refu at hr
    have hlast : ∀ i, i < xs.length → (lk xs i).n < x.n := fun i hi => by
      have h2 : (lk xs (xs.length - 1)).n < x.n := by omega
      by_cases e : i = xs.length - 1
      · rw [e]; exact h2
      · have := h.rise i (xs.length - 1) (by omega) (by omega); omega
    refine ⟨fun i j hij hj => ?_, fun i hi => ?_⟩
    · rw [List.length_append] at hj
      simp at hj
      by_cases e : j = xs.length
      · subst e; rw [lk_last, lk_left hij]; exact hlast i hij
      · rw [lk_left (by omega), lk_left (by omega)]; exact h.rise i j hij (by omega)
    · rw [List.length_append] at hi
      simp at hi
      by_cases e : i = xs.length
      · subst e; rw [lk_last]; omega
      · rw [lk_left (by omega)]; exact h.low i (by omega)
/-- How many links Prune takes away, and what it leaves. -/
def pruN (xs : List Lk) (s : Int) : Nat := upN xs s - 1
def pruL (xs : List Lk) (s : Int) : List Lk := xs.drop (pruN xs s)
theorem Good.drop {xs : List Lk} (h : Good xs) (m : Nat) : Good (xs.drop m) :=
  ⟨fun i j hij hj => by rw [List.length_drop] at hj; rw [lk_drop, lk_drop]; exact h.rise _ _ (by omega) (by omega), fun i hi => by rw [List.length_drop] at hi; rw [lk_drop]; exact h.low _ (by omega)⟩
theorem Good.prune {xs : List Lk} (h : Good xs) (s : Int) : Good (pruL xs s) := h.drop _
/-- What a walk tells that is left behind so many links (below 0: it is not left). -/
def walkL (xs : List Lk) (m : Int) : List Lk := if m < 0 then xs.reverse else xs.reverse.take m.toNat
theorem walkL_len (xs : List Lk) (m : Int) : (walkL xs m).length ≤ xs.length := by
  unfold walkL; split <;> simp <;> omega

/-- A row of links in memory (none: whatever the address). -/
def RowL (w : World) (a : Option Addr) (xs : List Lk) : Prop :=
  xs.length = 0 ∨ ∃ b o cur t, a = some ⟨b, o, none⟩ ∧ w.heap[b]? = some (.cells cur t (0, 0)) ∧ ∀ i, i < (celL xs).length → cur[o + i]? = (celL xs)[i]?
section
variable {w w' : World} {a : Option Addr} {xs : List Lk}
theorem RowL.keep (h : RowL w a xs) (hk : ∀ b o, a = some ⟨b, o, none⟩ → w'.heap[b]? = w.heap[b]?) : RowL w' a xs := by
  rcases h with h | ⟨b, o, cur, t, e, hb, hc⟩
  · exact .inl h
  · exact .inr ⟨b, o, cur, t, e, (hk b o e).trans hb, hc⟩
theorem RowL.below (h : RowL w a xs) (hb : Below w.heap.size w w') : RowL w' a xs := by
  rcases h with h | ⟨b, o, cur, t, e, hh, hc⟩
  · exact .inl h
  · exact .inr ⟨b, o, cur, t, e, (hb.block b (Array.getElem?_eq_some_iff.1 hh).1).trans hh, hc⟩
theorem RowL.at_ (h : RowL w a xs) (h0 : 0 < xs.length) : ∃ b o, a = some ⟨b, o, none⟩ ∧ b < w.heap.size ∧ (∀ j, w.frozen? ⟨b, j, none⟩ = false) ∧
    ∀ i, i < xs.length → w.cell? ⟨b, o + i * 3, none⟩ = some (.int .i64 (lk xs i).n) ∧ w.cell? ⟨b, o + i * 3 + 1, none⟩ = some (.slice (lk xs i).v.1 (lk xs i).v.2.1 (lk xs i).v.2.2) ∧ w.cell? ⟨b, o + i * 3 + 2, none⟩ = some (.bool (lk xs i).d) := by
  rcases h with h | ⟨b, o, cur, t, e, hh, hc⟩
  · omega
  · have hl := celL_len xs
    refine ⟨b, o, e, (Array.getElem?_eq_some_iff.1 hh).1, fun j => frozen_of_row _ _ _ _ _ hh, fun i hi => ⟨?_, ?_, ?_⟩⟩
    · rw [cell_of_row _ _ _ _ _ _ hh, hc (i * 3) (by omega)]; exact celL_at hi 0 (by omega)
    · rw [cell_of_row _ _ _ _ _ _ hh, Nat.add_assoc, hc (i * 3 + 1) (by omega)]; exact celL_at hi 1 (by omega)
    · rw [cell_of_row _ _ _ _ _ _ hh, Nat.add_assoc, hc (i * 3 + 2) (by omega)]; exact celL_at hi 2 (by omega)
theorem RowL.here (h : RowL w a xs) {i : Nat} (hi : i < xs.length) : ∃ b o, a = some ⟨b, o, none⟩ ∧ b < w.heap.size ∧ w.cell? ⟨b, o + i * 3, none⟩ = some (.int .i64 (lk xs i).n) ∧ w.cell? ⟨b, o + i * 3 + 1, none⟩ = some (.slice (lk xs i).v.1 (lk xs i).v.2.1 (lk xs i).v.2.2) ∧ w.cell? ⟨b, o + i * 3 + 2, none⟩ = some (.bool (lk xs i).d) := by
  obtain ⟨b, o, e, hl, _, hc⟩ := h.at_ (by omega)
  exact ⟨b, o, e, hl, hc i hi⟩
theorem RowL.drop {g o : Nat} (h : RowL w (some ⟨g, o, none⟩) xs) (m : Nat) : RowL w (some ⟨g, o + m * 3, none⟩) (xs.drop m) := by
  rcases h with h | ⟨b, o', cur, t, e, hh, hc⟩
  · exact .inl (by rw [List.length_drop]; omega)
  · cases e
    by_cases hm : m ≤ xs.length
    · refine .inr ⟨g, _, cur, t, rfl, hh, fun i hi => ?_⟩
      have e1 := celL_len xs
      have e2 := celL_len (xs.drop m)
      rw [List.length_drop] at e2
      have e3 : celL xs = celL (xs.take m) ++ celL (xs.drop m) := by rw [← celL_append, List.take_append_drop]
      have e4 : (celL (xs.take m)).length = m * 3 := by rw [celL_len, List.length_take]; congr 1; omega
      rw [Nat.add_assoc, hc (m * 3 + i) (by omega), e3, List.getElem?_append_right (by omega)]
      congr 1; omega
    · exact .inl (by rw [List.length_drop]; omega)
end
/-- A slice of links, of the program's and of the document's, that nobody writes over. -/
def OwL (w : World) (v : Value) (xs : List Lk) : Prop := OwnS w 0 95 3 v xs.length (celL xs)
theorem own_row {w : World} {base : Nat} {e : TypeId} {v : Value} {xs : List Lk} (h : OwnS w base e 3 v xs.length (celL xs)) : ∃ a cap, v = .slice a xs.length cap ∧ RowL w a xs ∧ xs.length ≤ cap ∧ cap ≤ maxLen ∧ (a = none → xs.length = 0 ∧ cap = 0) ∧ (∀ j, v.ownBlock = some j ↔ ∃ o, a = some ⟨j, o, none⟩) := by
  rcases h.2 with ⟨rfl, h0⟩ | ⟨g, o, cap, cur, rfl, hb, hh, hn, hc, hs, ht⟩
  · exact ⟨none, 0, by rw [h0], .inl h0, by omega, by simp [maxLen], fun _ => ⟨h0, rfl⟩, fun j => ⟨(fun e => by cases e), (fun ⟨o, e⟩ => by cases e)⟩⟩
  · exact ⟨_, cap, rfl, .inr ⟨g, o, cur, e, rfl, hh, ht⟩, hn, hc, (fun e => by cases e), fun j => ⟨(fun e => by cases e; exact ⟨o, rfl⟩), (fun ⟨o', e⟩ => by cases e; rfl)⟩⟩
theorem infoL : (Try.prog.info? 95).map (fun i => (i.zero, i.size, i.bytes)) = some (some (.agg #[.int .i64 0, .slice none 0 0, .bool false]), 3, 40) := by kernel_rfl
theorem triL_one (x : Lk) : ∀ u ∈ triL x, u.oneCell' = true := by
  intro u hu
  simp [triL] at hu
  rcases hu with rfl | rfl | rfl <;> rfl
theorem celL_ones (xs : List Lk) : ∀ u ∈ celL xs, u.oneCell' = true := by
  intro u hu
  obtain ⟨x, _, hx⟩ := List.mem_flatMap.1 hu
  exact triL_one x u hx
/-- One link, as what is appended; a row of them. -/
theorem src_one {tx e' : TypeId} (hk : Try.prog.underlying tx = some (.slice e')) (w : World) (x : Lk) (t : TypeId) : Src Try.prog 3 tx (.slice (some ⟨w.heap.size, 0, none⟩) 1 1) 1 (triL x) (w.alloc (.cells #[.int .i64 x.n, .slice x.v.1 x.v.2.1 x.v.2.2, .bool x.d] t)) := by
  refine Src.ofSlice _ hk ⟨w.heap.size, 0, none⟩ 1 1 _ rfl (fun j u hu => ?_) (triL_one x)
  rw [Addr.add_lit, cell_of_row _ _ _ _ _ _ (heap_alloc_new w _), Nat.zero_add]
  have : (#[.int .i64 x.n, .slice x.v.1 x.v.2.1 x.v.2.2, .bool x.d] : Array Value)[j]? = (triL x)[j]? := by simp [triL]
  rw [this]; exact hu
theorem src_row {tx e' : TypeId} (hk : Try.prog.underlying tx = some (.slice e')) {w : World} {a : Option Addr} {cap : Nat} {xs : List Lk} (hr : RowL w a xs) (hnil : a = none → xs.length = 0 ∧ cap = 0) : Src Try.prog 3 tx (.slice a xs.length cap) xs.length (celL xs) w := by
  cases a with
  | none =>
    obtain ⟨h1, h2⟩ := hnil rfl
    have hzs : xs = [] := List.eq_nil_of_length_eq_zero h1
    subst hzs
    exact Src.ofNil w hk cap
  | some ad =>
    refine Src.ofSlice w hk ad xs.length cap _ (celL_len xs) (fun j u hu => ?_) (celL_ones xs)
    have hj := (List.getElem?_eq_some_iff.1 hu).1
    rcases hr with h | ⟨b, o, cur, t, e, hh, hc⟩
    · rw [celL_len, h] at hj; omega
    · cases e
      rw [Addr.add_lit, cell_of_row _ _ _ _ _ _ hh, hc j hj]; exact hu

end Go.Proofs.Ythaknohnccmfoaa.kY
