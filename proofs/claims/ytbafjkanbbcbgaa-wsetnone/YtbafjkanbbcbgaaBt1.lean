/- Rows of bytes in memory, and slices of bytes of the call's own: read, copied, laid behind, written over. -/
import Derived.Test.YtbafjkanbbcbgaaRows
import Derived.WalkKit
import Derived.WalkSpells
import Derived.WalkLawsBesides
import Derived.Laws.BitsAllLaws
import Derived.Maps.AppendAt
import Derived.Laws.AppendOwnNone
import Derived.OwnWalk
import Derived.Below
import Derived.Tactics
import Derived.Deep.OwnRows
import Derived.OpenShut
import Derived.Deep.QuietTactic
import Derived.BigQuiet
import Derived.RegionTactic
namespace Go.Proofs.Ytbafjkanbbcbgaa
open Go.RowKit

/-- The element i of a list, 0 beyond its end. -/
def at0 (zs : List Nat) (i : Nat) : Nat := zs.getD i 0
/-- A number of 64 bits. -/
def W64 (a : Nat) : Prop := a < 18446744073709551616
/-- All are bytes. -/
def All8 (zs : List Nat) : Prop := ∀ z ∈ zs, z < 256
/-- A byte as a value. -/
def encB (z : Nat) : Value := .int .u8 (z : Int)

theorem hide_it {p : Prop} (h : p) : Hid p := h

theorem below_drewN {w w' : World} {B : Nat} (h : Below B w w') (q : Nat) : Below B w (w'.drewN q) := by
  induction q with
  | zero => exact h
  | succ q ih => exact ih.drew

theorem at0_get {zs : List Nat} {i : Nat} (hi : i < zs.length) : zs[i] = at0 zs i := by
  unfold at0; rw [List.getD_eq_getElem?_getD, List.getElem?_eq_getElem hi]; rfl
theorem at0_mem {zs : List Nat} {i : Nat} (h : i < zs.length) : at0 zs i ∈ zs := by
  rw [← at0_get h]; exact List.getElem_mem h
theorem mapB_at {zs : List Nat} {i : Nat} (h : i < zs.length) : (zs.map encB)[i]? = some (encB (at0 zs i)) := by
  rw [List.getElem?_map, List.getElem?_eq_getElem h, at0_get h]; rfl

/-- A row of bytes: the slice's address and its elements (none: whatever the address). -/
def RowB (w : World) (a : Option Addr) (zs : List Nat) : Prop :=
  zs.length = 0 ∨ ∃ b o, a = some ⟨b, o, none⟩ ∧ b < w.heap.size ∧ ∀ i, i < zs.length → w.cell? ⟨b, o + i, none⟩ = some (.int .u8 ((at0 zs i : Nat) : Int))

theorem RowB.below {w w' : World} {a : Option Addr} {zs : List Nat} (h : RowB w a zs) (hb : Below w.heap.size w w') : RowB w' a zs := by
  rcases h with h | ⟨b, o, e, hlt, hc⟩
  · exact .inl h
  · exact .inr ⟨b, o, e, Nat.lt_of_lt_of_le hlt hb.size, fun i hi => by rw [hb.cell (p := ⟨b, o + i, none⟩) hlt]; exact hc i hi⟩
theorem RowB.here {w : World} {a : Option Addr} {zs : List Nat} (h : RowB w a zs) {i : Nat} (hi : i < zs.length) :
    ∃ b o, a = some ⟨b, o, none⟩ ∧ b < w.heap.size ∧ ∀ i, i < zs.length → w.cell? ⟨b, o + i, none⟩ = some (.int .u8 ((at0 zs i : Nat) : Int)) := by
  rcases h with h | h
  · omega
  · exact h

/-- v is a slice of the call's own that holds the bytes zs. -/
def OwnB (w : World) (base : Nat) (v : Value) (zs : List Nat) : Prop := w.ownsRow base 5 1 v zs.length (zs.map encB)

theorem OwnB.row {w : World} {base : Nat} {v : Value} {zs : List Nat} (h : OwnB w base v zs) : ∃ a cap, v = .slice a zs.length cap ∧ RowB w a zs ∧ zs.length ≤ cap ∧ cap ≤ maxLen ∧ (a = none → zs.length = 0 ∧ cap = 0) := by
  rcases h.2 with ⟨rfl, h0⟩ | ⟨g, cap, cur, rfl, _, hh, hn, hm, _, ht⟩
  · exact ⟨none, 0, by rw [h0], .inl h0, by omega, by simp [maxLen], fun _ => ⟨h0, rfl⟩⟩
  · refine ⟨_, cap, rfl, .inr ⟨g, 0, rfl, (Array.getElem?_eq_some_iff.1 hh).1, fun i hi => ?_⟩, hn, hm, fun e => by cases e⟩
    rw [Nat.zero_add, cell_of_row _ _ _ _ _ _ hh]
    have h3 : (cur.toList.take (zs.length * 1))[i]? = (zs.map encB)[i]? := by rw [ht]
    rw [List.getElem?_take_of_lt (by omega)] at h3
    rw [← Array.getElem?_toList, h3]
    exact mapB_at hi
theorem OwnB.ge {w : World} {base : Nat} {v : Value} {zs : List Nat} (h : OwnB w base v zs) {j : Nat} (hj : v.ownBlock = some j) : base ≤ j := (h.lt j hj).1
theorem OwnB.below {w w' : World} {base : Nat} {v : Value} {zs : List Nat} (h : OwnB w base v zs) (hb : Below w.heap.size w w') : OwnB w' base v zs := by
  refine ⟨h.1, ?_⟩
  rcases h.2 with h2 | ⟨g, cap, cur, rfl, h3, hh, h4⟩
  · exact .inl h2
  · exact .inr ⟨g, cap, cur, rfl, h3, by rw [hb.block _ (Array.getElem?_eq_some_iff.1 hh).1]; exact hh, h4⟩

theorem infoB : (Try.prog.info? 5).map (fun i => (i.zero, i.size, i.bytes)) = some (some (.int .u8 0), 1, 1) := by kernel_rfl

theorem eq_of_at {xs ys : List Nat} (hl : xs.length = ys.length) (h : ∀ i, i < xs.length → at0 xs i = at0 ys i) : xs = ys := by
  apply List.ext_getElem hl
  intro i h1 h2
  rw [at0_get h1, at0_get h2]; exact h i h1

theorem OwnB.snoc {w : World} {base : Nat} {v : Value} {zs : List Nat} {x : Nat} (h : w.ownsRow base 5 1 v (zs.length + 1) (zs.map encB ++ [.int .u8 (x : Int)])) : OwnB w base v (zs ++ [x]) := by
  unfold OwnB; simpa [encB] using h
theorem wrap_byte (y : Nat) : IntKind.u8.wrap (y : Int) = ((y % 256 : Nat) : Int) := by
  simp [IntKind.wrap, IntKind.bits, IntKind.signed]

theorem wpList_append_row (w : World) {ops : Array Oper} {rest : List Oper} {o : Oper} {act : Act} {Q : Exit → Act → World → Prop} (hgd : o.guard = none) (s x : Operand)
    (ho : o.op = .call { callee := .builtin .append, args := #[s, x], argTypes := #[34, 34] })
    (base : Nat) (v : Value) (xs : List Nat) (hs : act.eval s = v) (hown : OwnB w base v xs) (a : Option Addr) (cap : Nat) (zs : List Nat) (hx : act.eval x = .slice a zs.length cap) (hr : RowB w a zs) (hnil : a = none → zs.length = 0 ∧ cap = 0)
    (hl : xs.length + zs.length ≤ 140737488355328) (hbase : base ≤ w.heap.size)
    (h : ∀ v' w', OwnB w' base v' (xs ++ zs) → w.grownBy w' v.ownBlock → (v'.ownBlock = v.ownBlock ∨ v'.ownBlock = some w.heap.size) → wpList Try.prog ops Q rest (act.put o.dst v') w') :
    wpList Try.prog ops Q (o :: rest) act w := by
  obtain ⟨i0, hi, hz0, hz1, hz2⟩ := info_parts infoB
  cases a with
  | none =>
    obtain ⟨h1, h2⟩ := hnil rfl
    have hzs : zs = [] := List.eq_nil_of_length_eq_zero h1
    subst hzs
    subst h2
    refine wpList_append_own_none hgd s x 34 ho base 5 i0 1 Try.underlying34 hi v xs.length (xs.map encB) hs hown hx ?_
    exact h v w (by rw [List.append_nil]; exact hown) ⟨rfl, rfl, rfl, Nat.le_refl _, fun _ _ _ => rfl⟩ (.inl rfl)
  | some ad =>
    have hnews : ∀ j u, (zs.map encB)[j]? = some u → w.cell? (ad.add j) = some u := fun j u hu => by
      have hj : j < zs.length := by have := (List.getElem?_eq_some_iff.1 hu).1; simpa using this
      obtain ⟨b, o, e, hlt, hc⟩ := hr.here hj
      cases e
      rw [Addr.add_lit, hc j hj]
      exact (mapB_at hj).symm.trans hu
    have hone : ∀ u ∈ zs.map encB, u.oneCell' = true := fun u hu => by
      obtain ⟨z, _, rfl⟩ := List.mem_map.1 hu
      rfl
    refine wpList_append_own_at _ hgd s x 34 ho base 5 i0 (.int .u8 0) 1 1 Try.underlying34 hi hz0 hz1 hz2 rfl (by omega) v xs.length (xs.map encB) hs hown ad zs.length cap (zs.map encB) hx (by simp) hnews hone (by unfold maxLen; omega) (by omega) hbase ?_
    intro v4 w4 hown4 hgrow4 hnil4 hat4
    exact h v4 w4 (by unfold OwnB; simpa using hown4) hgrow4 hat4

theorem wpList_append_byte (w : World) {ops : Array Oper} {rest : List Oper} {o : Oper} {act : Act} {Q : Exit → Act → World → Prop} (hgd : o.guard = none) (s x : Operand)
    (ho : o.op = .call { callee := .builtin .append, args := #[s, x], argTypes := #[34, 34] })
    (base : Nat) (v : Value) (xs : List Nat) (hs : act.eval s = v) (hown : OwnB w base v xs) (z : Nat)
    (hx : act.eval x = .slice (some ⟨w.heap.size, 0, none⟩) 1 1)
    (hl : xs.length + 1 ≤ 140737488355328) (hbase : base ≤ w.heap.size)
    (h : ∀ v' w', OwnB w' base v' (xs ++ [z]) → (w.alloc (.cells #[.int .u8 (z : Int)] 5)).grownBy w' v.ownBlock → (v'.ownBlock = v.ownBlock ∨ v'.ownBlock = some (w.heap.size + 1)) → wpList Try.prog ops Q rest (act.put o.dst v') w') :
    wpList Try.prog ops Q (o :: rest) act (w.alloc (.cells #[.int .u8 (z : Int)] 5)) := by
  obtain ⟨i0, hi, hz0, hz1, hz2⟩ := info_parts infoB
  have hone : ∀ u ∈ [Value.int .u8 (z : Int)], u.oneCell' = true := by simp [Value.oneCell']
  refine wpList_append_own_at _ hgd s x 34 ho base 5 i0 (.int .u8 0) 1 1 Try.underlying34 hi hz0 hz1 hz2 rfl (by omega) v xs.length (xs.map encB) hs (hown.alloc _) ⟨w.heap.size, 0, none⟩ 1 1 [.int .u8 (z : Int)] hx rfl (cell_one_new _ _ _) hone (by unfold maxLen; omega) (by omega) (by simp; omega) ?_
  intro v4 w4 hown4 hgrow4 hnil4 hat4
  exact h v4 w4 (OwnB.snoc hown4) hgrow4 (by simpa using hat4)

theorem run_append_byte (w : World) (base : Nat) (v : Value) (xs : List Nat) (ty : TypeId) (hown : OwnB w base v xs) (z : Nat) (hl : xs.length + 1 ≤ 140737488355328) (hbase : base ≤ w.heap.size) :
    ∃ v' w', (Builtin.append_ #[34, 34] ty #[v, .slice (some ⟨w.heap.size, 0, none⟩) 1 1]).run Try.prog (w.alloc (.cells #[.int .u8 (z : Int)] 5)) = .ok v' w' ∧ OwnB w' base v' (xs ++ [z]) ∧ (w.alloc (.cells #[.int .u8 (z : Int)] 5)).grownBy w' v.ownBlock ∧ (v'.ownBlock = v.ownBlock ∨ v'.ownBlock = some (w.heap.size + 1)) := by
  obtain ⟨i0, hi, hz0, hz1, hz2⟩ := info_parts infoB
  have hone : ∀ u ∈ [Value.int .u8 (z : Int)], u.oneCell' = true := by simp [Value.oneCell']
  obtain ⟨v4, w4, hrun, hown4, hgrow4, hnil4, hat4⟩ := run_append_own_at (P := Try.prog) (w.alloc (.cells #[.int .u8 (z : Int)] 5)) base 34 ty 5 i0 (.int .u8 0) 1 1 Try.underlying34 hi hz0 hz1 hz2 rfl (by omega) v xs.length (xs.map encB) (hown.alloc _) ⟨w.heap.size, 0, none⟩ 1 1 [.int .u8 (z : Int)] rfl (cell_one_new _ _ _) hone (by unfold maxLen; omega) (by omega) (by simp; omega)
  exact ⟨v4, w4, hrun, OwnB.snoc hown4, hgrow4, by simpa using hat4⟩

theorem own_empty (w : World) : OwnB (w.alloc (.cells #[] 5)) w.heap.size (.slice (some ⟨w.heap.size, 0, none⟩) 0 0) [] :=
  ⟨rfl, .inr ⟨_, _, _, rfl, Nat.le_refl _, heap_alloc_new w _, Nat.le_refl _, by unfold maxLen; omega, rfl, rfl⟩⟩

theorem OwnB.keep {w w' : World} {base : Nat} {v : Value} {zs : List Nat} {r : Option Nat} (h : OwnB w base v zs) (hg : w.grownBy w' r) (hne : ∀ j, v.ownBlock = some j → r ≠ some j) : OwnB w' base v zs := by
  refine ⟨h.1, ?_⟩
  rcases h.2 with h2 | ⟨g, cap, cur, rfl, h3, hh, h4⟩
  · exact .inl h2
  · have hlt := (Array.getElem?_eq_some_iff.1 hh).1
    exact .inr ⟨g, cap, cur, rfl, h3, (hg.block g hlt (fun e => hne g rfl e.symm)).trans hh, h4⟩
theorem OwnB.under {w w' : World} {B base : Nat} {v : Value} {zs : List Nat} (h : OwnB w base v zs) (hb : Below B w w') (hlt : ∀ j, v.ownBlock = some j → j < B) : OwnB w' base v zs := by
  refine ⟨h.1, ?_⟩
  rcases h.2 with h2 | ⟨g, cap, cur, rfl, h3, hh, h4⟩
  · exact .inl h2
  · exact .inr ⟨g, cap, cur, rfl, h3, (hb.block g (hlt g rfl)).trans hh, h4⟩
theorem OwnB.inside {w : World} {base : Nat} {v : Value} {zs : List Nat} (h : OwnB w base v zs) : ∀ j, v.ownBlock = some j → j < w.heap.size := by
  rcases h.2 with ⟨rfl, _⟩ | ⟨g, cap, cur, rfl, h3, hh, h4⟩
  · intro j e; cases e
  · intro j e; cases e; exact (Array.getElem?_eq_some_iff.1 hh).1
/-- A slice of one's own that is not empty: its block, its cells. -/
theorem OwnB.at {w : World} {base : Nat} {a : Option Addr} {n cap : Nat} {zs : List Nat} (h : OwnB w base (.slice a n cap) zs) (h0 : 0 < zs.length) :
    ∃ (g : Nat) (cur : Array Value), a = some ⟨g, 0, none⟩ ∧ n = zs.length ∧ base ≤ g ∧ w.heap[g]? = some (.cells cur 5 (0, 0)) ∧ ∀ i, i < zs.length → cur[i]? = some (.int .u8 ((at0 zs i : Nat) : Int)) := by
  obtain ⟨a1, c1, e1, hr, _⟩ := h.row
  cases e1
  rcases h.2 with ⟨_, h2⟩ | ⟨g, cap, cur, e, h3, hh, _⟩
  · omega
  · cases e
    refine ⟨g, cur, rfl, rfl, h3, hh, fun i hi => ?_⟩
    rcases hr with h | ⟨b, o, e, hlt, hc⟩
    · omega
    · cases e
      have := hc i hi
      rw [cell_of_row _ _ _ _ _ _ hh, Nat.zero_add] at this
      exact this
theorem OwnB.set {w : World} {base g cap n : Nat} {zs : List Nat} (h : OwnB w base (.slice (some ⟨g, 0, none⟩) n cap) zs) {i : Nat} (_hi : i < zs.length) (x : Nat) : OwnB (w.setCell ⟨g, i, none⟩ (.int .u8 (x : Int))) base (.slice (some ⟨g, 0, none⟩) n cap) (zs.set i x) := by
  refine ⟨by simp, ?_⟩
  rcases h.2 with ⟨h2, _⟩ | ⟨g', cap', cur, e, h3, hh, h4, h5, h6, h7⟩
  · cases h2
  · cases e
    refine .inr ⟨g, cap, _, by simp, h3, heap_setCell_same w g i _ _ _ hh, by simpa using h4, h5, by simpa using h6, ?_⟩
    rw [List.length_set, Array.toList_setIfInBounds, List.take_set, h7]
    simp [List.map_set, encB]

theorem OwnB.mono {w : World} {base base' : Nat} {v : Value} {zs : List Nat} (h : OwnB w base v zs) (hb : base' ≤ base) : OwnB w base' v zs := by
  refine ⟨h.1, ?_⟩
  rcases h.2 with h2 | ⟨g, cap, cur, e, h3, h4⟩
  · exact .inl h2
  · exact .inr ⟨g, cap, cur, e, Nat.le_trans hb h3, h4⟩
theorem OwnB.set_old {w : World} {base p : Nat} {v : Value} {zs : List Nat} (h : OwnB w base v zs) (hp : p < base) (i : Nat) (u : Value) : OwnB (w.setCell ⟨p, i, none⟩ u) base v zs := by
  refine ⟨h.1, ?_⟩
  rcases h.2 with h2 | ⟨g, cap, cur, e, h3, hh, h4⟩
  · exact .inl h2
  · exact .inr ⟨g, cap, cur, e, h3, by rw [Below.heap_setCell _ _ _ _ (show g ≠ p by omega)]; exact hh, h4⟩

end Go.Proofs.Ytbafjkanbbcbgaa
