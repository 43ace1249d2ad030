/- What Covers answers of every list of up to a million labels. -/
import Derived.Test.YthclmkmajlinhabCov2
namespace Go.Proofs.Ythclmkmajlinhab
open Go.RowKit Go.Maps

/-- The places ahead of k at which x stands. -/
def pl (zs : List Nat) (x k : Nat) : List Nat := (List.range k).filter fun i => decide (at0 zs i = x)
theorem pl_hit {zs : List Nat} {x k : Nat} (h : at0 zs k = x) : pl zs x (k + 1) = pl zs x k ++ [k] := by
  unfold pl; rw [List.range_succ, List.filter_append]; simp [h]
theorem pl_miss {zs : List Nat} {x k : Nat} (h : at0 zs k ≠ x) : pl zs x (k + 1) = pl zs x k := by
  unfold pl; rw [List.range_succ, List.filter_append]; simp [h]
theorem pl_len (zs : List Nat) (x k : Nat) : (pl zs x k).length ≤ k := by
  have := List.length_filter_le (fun i => decide (at0 zs i = x)) (List.range k); simpa [pl] using this
theorem pl_pos {zs : List Nat} {x : Nat} (h : x ∈ zs) : 0 < (pl zs x zs.length).length := by
  obtain ⟨i, hi, e⟩ := mem_at0 h
  exact List.length_pos_of_mem (a := i) (List.mem_filter.2 ⟨List.mem_range.2 hi, by simp [e]⟩)
theorem pl_step (zs : List Nat) (k : Nat) : (fun y => if y = at0 zs k then pl zs (at0 zs k) k ++ [k] else pl zs y k) = fun y => pl zs y (k + 1) := by
  funext y
  by_cases e : y = at0 zs k
  · rw [if_pos e, e, pl_hit rfl]
  · rw [if_neg e, pl_miss (fun h => e h.symm)]


theorem filter_or_perm {p q : Nat → Bool} : ∀ l : List Nat, (∀ a ∈ l, p a = true → q a = false) → (l.filter (fun a => p a || q a)).Perm (l.filter p ++ l.filter q) := by
  intro l
  induction l with
  | nil => intro _; exact List.Perm.refl _
  | cons a t ih =>
    intro h
    have ih2 := ih (fun b hb => h b (List.mem_cons_of_mem _ hb))
    cases hp : p a
    · cases hq : q a
      · simp [hp, hq]; exact ih2
      · simp [hp, hq]; exact (ih2.cons a).trans List.perm_middle.symm
    · have hq := h a List.mem_cons_self hp
      simp [hp, hq]; exact ih2

/-- The places ahead of n of all labels in R. -/
def abOf (zs R : List Nat) (n : Nat) : List Nat := (List.range n).filter fun i => decide (at0 zs i ∈ R)

theorem flatMap_perm (zs : List Nat) (n : Nat) : ∀ R : List Nat, R.Nodup → (R.flatMap fun y => pl zs y n).Perm (abOf zs R n) := by
  intro R
  induction R with
  | nil => intro _; simp [abOf]
  | cons y t ih =>
    intro hn
    have hn2 := List.nodup_cons.1 hn
    have e : abOf zs (y :: t) n = (List.range n).filter (fun i => decide (at0 zs i = y) || decide (at0 zs i ∈ t)) := by
      unfold abOf; congr 1; funext i; simp
    rw [e]
    refine List.Perm.trans ?_ (filter_or_perm _ (fun a _ ha => ?_)).symm
    · rw [List.flatMap_cons]; exact (ih hn2.2).append_left _
    · have : at0 zs a = y := of_decide_eq_true ha
      simp [this, hn2.1]

theorem abOf_len (zs R : List Nat) (n : Nat) : (abOf zs R n).length ≤ n := by
  have := List.length_filter_le (fun i => decide (at0 zs i ∈ R)) (List.range n); simpa [abOf] using this

theorem sortedR_pairwise {l : List Nat} (h : sortedR l 0 l.length) : l.Pairwise (· ≤ ·) := by
  rw [List.pairwise_iff_getElem]
  intro i j hi hj hij
  rw [at0_get hi, at0_get hj]
  exact h i j (by omega) hij hj

theorem eq_abOf {zs R l : List Nat} {n : Nat} (hn : R.Nodup) (hp : l.Perm (R.flatMap fun y => pl zs y n)) (hs : sortedR l 0 l.length) : l = abOf zs R n := by
  refine List.Perm.eq_of_pairwise (le := (· ≤ ·)) (fun a b _ _ h1 h2 => by omega) (sortedR_pairwise hs) ?_ (hp.trans (flatMap_perm zs n R hn))
  exact (List.pairwise_lt_range.imp (fun h => Nat.le_of_lt h)).filter _

theorem flatMap_take_len (zs R : List Nat) (n m : Nat) (hn : R.Nodup) : ((R.take m).flatMap fun y => pl zs y n).length ≤ n := by
  have h := (flatMap_perm zs n (R.take m) (hn.sublist (List.take_sublist _ _))).length_eq
  rw [h]; exact abOf_len _ _ _

theorem flatMap_take_succ {zs R : List Nat} {n m : Nat} (h : m < R.length) : ((R.take (m + 1)).flatMap fun y => pl zs y n) = ((R.take m).flatMap fun y => pl zs y n) ++ pl zs (at0 R m) n := by
  rw [List.take_succ_eq_append_getElem h, List.flatMap_append, at0_get h]; simp

/-- slices.Sort sorts the call's own rows of up to M places. -/
def SortsI (M : Nat) : Prop := ∀ (B : Nat) (v : Value) (l : List Nat) (w : World), w.ownsRow B 3 1 v l.length (l.map encI) → l.length ≤ M →
  Calls Try.prog 23 #[v] w fun e w' => e = .returned (.tuple #[]) ∧ ∃ l', l'.Perm l ∧ sortedR l' 0 l'.length ∧ w'.ownsRow B 3 1 v l'.length (l'.map encI) ∧ w.grownBy w' v.ownBlock

theorem strict_nodup {C : List Nat} (h : ∀ i, i + 1 < C.length → at0 C i < at0 C (i + 1)) : C.Pairwise (· < ·) := by
  rw [List.pairwise_iff_getElem]
  intro i j hi hj hij
  rw [at0_get hi, at0_get hj]
  have key : ∀ d, i + d + 1 < C.length → at0 C i < at0 C (i + d + 1) := by
    intro d
    induction d with
    | zero => intro hd; exact h i hd
    | succ d ih => intro hd; exact Nat.lt_trans (ih (by omega)) (h (i + d + 1) hd)
  have := key (j - i - 1) (by omega)
  have e : i + (j - i - 1) + 1 = j := by omega
  rw [e] at this; exact this

theorem raStep_nodup {l : Nat} {f : List Nat} {x : Nat} (hf : f.Nodup) (hx : x ∉ f) : (raStep l f x).Nodup := by
  unfold raStep
  split
  · exact List.nodup_append.2 ⟨hf, by simp, fun a ha b hb e => by simp at hb; subst hb; subst e; exact hx ha⟩
  · exact hf
theorem raOf_nodup {l : Nat} {zs : List Nat} (hn : zs.Nodup) : (raOf l zs).Nodup := by
  have key : ∀ (zs f : List Nat), zs.Nodup → f.Nodup → (∀ x ∈ zs, x ∉ f) → (zs.foldl (raStep l) f).Nodup := by
    intro zs
    induction zs with
    | nil => intro f _ hf _; exact hf
    | cons z t ih =>
      intro f hn hf hd
      have hn2 := List.nodup_cons.1 hn
      refine ih _ hn2.2 (raStep_nodup hf (hd z List.mem_cons_self)) (fun x hx hm => ?_)
      rcases raStep_mem hm with h | h
      · exact hd x (List.mem_cons_of_mem _ hx) h
      · subst h; exact hn2.1 hx
  exact key zs [] hn List.nodup_nil (fun _ _ h => by cases h)

end Go.Proofs.Ythclmkmajlinhab
