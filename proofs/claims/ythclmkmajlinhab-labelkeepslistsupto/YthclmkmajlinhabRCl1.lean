/- The document's closure as plain mathematics; rows of numbers of the call's own, an element laid behind, two exchanged. -/
import Derived.Test.YthclmkmajlinhabClose2
import Derived.Test.YthclmkmajlinhabWalk4
import Derived.Test.YthclmkmajlinhabCov3
namespace Go.Proofs.Ythclmkmajlinhab
open Go.RowKit

/-- v is a slice of the call's own that holds the numbers zs. -/
def OwnU (w : World) (base : Nat) (v : Value) (zs : List Nat) : Prop := w.ownsRow base 35 1 v zs.length (zs.map encU)

theorem OwnU.row {w : World} {base : Nat} {v : Value} {zs : List Nat} (h : OwnU w base v zs) : ∃ a cap, v = .slice a zs.length cap ∧ Row w a zs ∧ zs.length ≤ cap ∧ (a = none → zs.length = 0 ∧ cap = 0) := by
  rcases h.2 with ⟨rfl, h0⟩ | ⟨g, cap, cur, rfl, _, hh, hn, _, _, ht⟩
  · exact ⟨none, 0, by rw [h0], .inl h0, by omega, fun _ => ⟨h0, rfl⟩⟩
  · refine ⟨_, cap, rfl, .inr ⟨g, 0, rfl, (Array.getElem?_eq_some_iff.1 hh).1, fun i hi => ?_⟩, hn, fun e => by cases e⟩
    rw [Nat.zero_add, cell_of_row _ _ _ _ _ _ hh]
    have h3 : (cur.toList.take (zs.length * 1))[i]? = (zs.map encU)[i]? := by rw [ht]
    rw [List.getElem?_take_of_lt (by omega)] at h3
    rw [← Array.getElem?_toList, h3]
    have := map_at0 (q := .u64) hi []
    rw [List.append_nil] at this
    exact this
theorem OwnU.below {w w' : World} {base : Nat} {v : Value} {zs : List Nat} (h : OwnU w base v zs) (hb : Below w.heap.size w w') : OwnU w' base v zs := by
  refine ⟨h.1, ?_⟩
  rcases h.2 with h2 | ⟨g, cap, cur, rfl, h3, hh, h4⟩
  · exact .inl h2
  · exact .inr ⟨g, cap, cur, rfl, h3, by rw [hb.block _ (Array.getElem?_eq_some_iff.1 hh).1]; exact hh, h4⟩
theorem OwnU.nil (w : World) (base : Nat) : OwnU w base (.slice none 0 0) [] := ⟨rfl, .inl ⟨rfl, rfl⟩⟩
theorem OwnU.snoc {w : World} {base : Nat} {v : Value} {zs : List Nat} {x : Nat} (h : w.ownsRow base 35 1 v (zs.length + 1) (zs.map encU ++ [.int .u64 (x : Int)])) : OwnU w base v (zs ++ [x]) := by
  unfold OwnU; simpa [encU] using h

theorem wpList_append_u64 (w : World) {ops : Array Oper} {rest : List Oper} {o : Oper} {act : Act} {Q : Exit → Act → World → Prop} (hgd : o.guard = none) (s x : Operand)
    (ho : o.op = .call { callee := .builtin .append, args := #[s, x], argTypes := #[23, 23] })
    (base : Nat) (v : Value) (xs : List Nat) (hs : act.eval s = v) (hown : OwnU w base v xs) (z : Nat)
    (hx : act.eval x = .slice (some ⟨w.heap.size, 0, none⟩) 1 1)
    (hl : (xs.length + 1) * 8 ≤ 140737488355328) (hbase : base ≤ w.heap.size)
    (h : ∀ v' w', OwnU w' base v' (xs ++ [z]) → (w.alloc (.cells #[.int .u64 (z : Int)] 35)).grownBy w' v.ownBlock → wpList Try.prog ops Q rest (act.put o.dst v') w') :
    wpList Try.prog ops Q (o :: rest) act (w.alloc (.cells #[.int .u64 (z : Int)] 35)) := by
  obtain ⟨i0, hi, hz0, hz1, hz2⟩ := info_parts info23
  have hone : ∀ u ∈ [Value.int .u64 (z : Int)], u.oneCell' = true := by simp [Value.oneCell']
  refine wpList_append_own_at _ hgd s x 23 ho base 35 i0 (.int .u64 0) 1 8 Try.underlying23 hi hz0 hz1 hz2 rfl (by omega) v xs.length (xs.map encU) hs (World.ownsRow.alloc hown _) ⟨w.heap.size, 0, none⟩ 1 1 [.int .u64 (z : Int)] hx rfl (cell_one_new _ _ _) hone (by unfold maxLen; omega) (by omega) (by simp; omega) ?_
  intro v4 w4 hown4 hgrow4 hnil4 hat4
  exact h v4 w4 (OwnU.snoc hown4) hgrow4

/-- A number is laid behind the others, if it is not among them. -/
def ins (al : List Nat) (x : Nat) : List Nat := if x ∈ al then al else al ++ [x]
theorem ins_mem (al : List Nat) (x : Nat) : x ∈ ins al x := by unfold ins; split <;> simp_all
theorem ins_sub {al : List Nat} {x y : Nat} (h : y ∈ al) : y ∈ ins al x := by unfold ins; split <;> simp_all
theorem ins_inv {al : List Nat} {x y : Nat} (h : y ∈ ins al x) : y ∈ al ∨ y = x := by unfold ins at h; split at h <;> simp_all
theorem ins_nodup {al : List Nat} {x : Nat} (h : al.Nodup) : (ins al x).Nodup := by
  unfold ins
  split
  · exact h
  · rename_i hx
    exact List.nodup_append.2 ⟨h, by simp, fun a ha b hb => by simp at hb; subst hb; exact fun e => hx (e ▸ ha)⟩
theorem ins_len (al : List Nat) (x : Nat) : al.length ≤ (ins al x).length ∧ (ins al x).length ≤ al.length + 1 := by unfold ins; split <;> simp
theorem ins_at {al : List Nat} {x i : Nat} (h : i < al.length) : at0 (ins al x) i = at0 al i := by
  unfold ins at0
  split
  · rfl
  · rw [List.getD_eq_getElem?_getD, List.getD_eq_getElem?_getD, List.getElem?_append_left h]

/-- What stands when all pairs ahead of (i, j) have been looked at. -/
structure RS (zs al : List Nat) (i j : Nat) : Prop where
  nodup : al.Nodup
  sub : ∀ x ∈ al, InCl zs x
  base : ∀ x ∈ zs, x ∈ al
  pairs : ∀ p q, q < p → p < al.length → (p < i ∨ p = i ∧ q < j) → good al p q

theorem RS.ins {zs al : List Nat} {i j x : Nat} (h : RS zs al i j) (hi : i < al.length) (hx : InCl zs x) : RS zs (ins al x) i j := by
  refine ⟨ins_nodup h.nodup, fun y hy => ?_, fun y hy => ins_sub (h.base y hy), fun p q hqp hp hor => ?_⟩
  · rcases ins_inv hy with e | e
    · exact h.sub y e
    · subst e; exact hx
  · have hpl : p < al.length := by omega
    have := h.pairs p q hqp hpl hor
    unfold good at this ⊢
    rw [ins_at hpl, ins_at (by omega : q < al.length)]
    exact ⟨ins_sub this.1, ins_sub this.2⟩

/-- One pair. -/
def pair2 (al : List Nat) (i j : Nat) : List Nat := ins (ins al (at0 al i ||| at0 al j)) (at0 al i &&& at0 al j)
theorem RS.pair {zs al : List Nat} {i j : Nat} (h : RS zs al i j) (hi : i < al.length) (hj : j < i) : RS zs (pair2 al i j) i (j + 1) := by
  have h1 := (h.sub _ (at0_mem hi)).step (h.sub _ (at0_mem (show j < al.length by omega)))
  have s1 := h.ins hi h1.1
  have hl1 := ins_len al (at0 al i ||| at0 al j)
  have s2 := s1.ins (by omega) h1.2
  refine ⟨s2.nodup, s2.sub, s2.base, fun p q hqp hp hor => ?_⟩
  by_cases e : p = i ∧ q = j
  · obtain ⟨rfl, rfl⟩ := e
    unfold good pair2
    have hl2 := ins_len al (at0 al p ||| at0 al q)
    rw [ins_at (by omega), ins_at hi, ins_at (by omega : q < _), ins_at (by omega : q < al.length)]
    exact ⟨ins_sub (ins_mem _ _), ins_mem _ _⟩
  · exact s2.pairs p q hqp hp (by omega)
theorem pair2_len (al : List Nat) (i j : Nat) : al.length ≤ (pair2 al i j).length ∧ (pair2 al i j).length ≤ al.length + 2 := by
  unfold pair2
  have h1 := ins_len al (at0 al i ||| at0 al j)
  have h2 := ins_len (ins al (at0 al i ||| at0 al j)) (at0 al i &&& at0 al j)
  omega
theorem RS.next {zs al : List Nat} {i : Nat} (h : RS zs al i i) : RS zs al (i + 1) 0 := ⟨h.nodup, h.sub, h.base, fun p q hqp hp hor => h.pairs p q hqp hp (by omega)⟩
theorem RS.many {zs al : List Nat} {i j : Nat} (h : RS zs al i j) (hl : 16 < al.length) : Many zs :=
  ⟨al.take 17, h.nodup.sublist (List.take_sublist _ _), by rw [List.length_take]; omega, fun x hx => h.sub x (List.mem_of_mem_take hx)⟩
theorem RS.done {zs al : List Nat} {i : Nat} (h : RS zs al i 0) (hi : al.length ≤ i) : ClosedL al := by
  intro x hx y hy
  obtain ⟨p, hp, rfl⟩ := mem_at0 hx
  obtain ⟨q, hq, rfl⟩ := mem_at0 hy
  rcases Nat.lt_trichotomy p q with e | e | e
  · have := h.pairs q p e hq (by omega)
    unfold good at this
    rw [Nat.or_comm, Nat.and_comm]
    exact this
  · subst e
    rw [Nat.or_self, Nat.and_self]
    exact ⟨hx, hx⟩
  · exact h.pairs p q e hp (by omega)
theorem IsCl.of {zs al C : List Nat} {i : Nat} (h : RS zs al i 0) (hi : al.length ≤ i) (h16 : al.length ≤ 16) (hp : C.Perm al) (hs : sortedR C 0 C.length) : IsCl zs C :=
  ⟨fun x => by rw [hp.mem_iff]; exact ⟨h.sub x, fun hx => hx.mem h.base (h.done hi)⟩, hp.nodup_iff.2 h.nodup, by rw [hp.length_eq]; exact h16, hs⟩
theorem IsCl.unique {zs C D : List Nat} (hC : IsCl zs C) (hD : IsCl zs D) : C = D :=
  (List.Perm.eq_of_pairwise (le := (· ≤ ·)) (fun a b _ _ h1 h2 => Nat.le_antisymm h1 h2) (sortedR_pairwise hC.rising) (sortedR_pairwise hD.rising) ((List.perm_ext_iff_of_nodup hC.nodup hD.nodup).2 fun x => by rw [hC.mem, hD.mem]))
theorem nodup_le : ∀ {X C : List Nat}, X.Nodup → (∀ x ∈ X, x ∈ C) → X.length ≤ C.length
  | [], _, _, _ => Nat.zero_le _
  | x :: t, C, hn, h => by
    have hx := h x List.mem_cons_self
    have h1 : t.length ≤ (C.erase x).length := nodup_le (List.nodup_cons.1 hn).2 (fun y hy => by
      have hne : y ≠ x := fun e => (List.nodup_cons.1 hn).1 (e ▸ hy)
      exact (List.mem_erase_of_ne hne).2 (h y (List.mem_cons_of_mem _ hy)))
    have h2 := List.length_erase_of_mem hx
    have h3 : 0 < C.length := List.length_pos_of_mem hx
    simp only [List.length_cons]
    omega
theorem IsCl.few {zs C : List Nat} (h : IsCl zs C) : ¬ Many zs := fun ⟨X, hn, hl, hx⟩ => by
  have hsub : ∀ x ∈ X, x ∈ C := fun x h1 => (h.mem x).2 (hx x h1)
  have := nodup_le hn hsub
  have := h.len
  omega

end Go.Proofs.Ythclmkmajlinhab
