/- A cursor over bytes: what each of its takings answers, or with which error it gives up. -/
import Derived.Test.YtfhinodieghklabBy5
import Derived.Defers
import Derived.Recover
import Derived.Laws.Pointers
namespace Go.Proofs.Ytfhinodieghklab
open Go.RowKit

/-- A row of bytes in a block below base. -/
def RowLt (w : World) (base : Nat) (a : Option Addr) (zs : List Nat) : Prop :=
  zs.length = 0 ∨ ∃ b o, a = some ⟨b, o, none⟩ ∧ b < base ∧ b < w.heap.size ∧ ∀ i, i < zs.length → w.cell? ⟨b, o + i, none⟩ = some (.int .u8 ((at0 zs i : Nat) : Int))
theorem RowLt.row {w : World} {base : Nat} {a : Option Addr} {zs : List Nat} (h : RowLt w base a zs) : RowB w a zs := by
  rcases h with h | ⟨b, o, e, _, h2, h3⟩
  · exact .inl h
  · exact .inr ⟨b, o, e, h2, h3⟩
theorem RowLt.of_row {w : World} {a : Option Addr} {zs : List Nat} (h : RowB w a zs) : RowLt w w.heap.size a zs := by
  rcases h with h | ⟨b, o, e, h2, h3⟩
  · exact .inl h
  · exact .inr ⟨b, o, e, h2, h2, h3⟩
theorem RowLt.below {w w' : World} {base : Nat} {a : Option Addr} {zs : List Nat} (h : RowLt w base a zs) (hb : Below base w w') : RowLt w' base a zs := by
  rcases h with h | ⟨b, o, e, h1, h2, h3⟩
  · exact .inl h
  · exact .inr ⟨b, o, e, h1, Nat.lt_of_lt_of_le h2 hb.size, fun i hi => by rw [hb.cell (p := ⟨b, o + i, none⟩) h1]; exact h3 i hi⟩

/-- The cursor in block g stands ahead of the bytes bs. -/
def Cur (w : World) (base g : Nat) (bs : List Nat) : Prop :=
  base ≤ g ∧ ∃ a cap, w.heap[g]? = some (.cells #[.slice a bs.length cap] 90 (0, 0)) ∧ RowLt w base a bs ∧ bs.length ≤ cap ∧ cap ≤ maxLen ∧ (a = none → bs.length = 0 ∧ cap = 0)

theorem at0_drop (bs : List Nat) (n i : Nat) : at0 (bs.drop n) i = at0 bs (n + i) := by
  unfold at0
  rw [List.getD_eq_getElem?_getD, List.getD_eq_getElem?_getD, List.getElem?_drop]
theorem at0_take {bs : List Nat} {n i : Nat} (h : i < n) : at0 (bs.take n) i = at0 bs i := by
  unfold at0
  rw [List.getD_eq_getElem?_getD, List.getD_eq_getElem?_getD, List.getElem?_take_of_lt h]

theorem RowLt.take {w : World} {base : Nat} {a : Option Addr} {bs : List Nat} (h : RowLt w base a bs) (n : Nat) : RowLt w base a (bs.take n) := by
  rcases h with h | ⟨b, o, e, h1, h2, h3⟩
  · exact .inl (by simp [h])
  · exact .inr ⟨b, o, e, h1, h2, fun i hi => by
      have hi' : i < n ∧ i < bs.length := by simp at hi; omega
      rw [at0_take hi'.1]; exact h3 i hi'.2⟩
theorem RowLt.drop {w : World} {base : Nat} {a : Option Addr} {bs : List Nat} (h : RowLt w base a bs) (n : Nat) : RowLt w base (a.map (fun x => x.add n)) (bs.drop n) := by
  rcases h with h | ⟨b, o, rfl, h1, h2, h3⟩
  · exact .inl (by simp [h])
  · refine .inr ⟨b, o + n, by rw [Option.map_some, Addr.add_lit], h1, h2, fun i hi => ?_⟩
    have hi' : n + i < bs.length := by simp at hi; omega
    rw [at0_drop, show o + n + i = o + (n + i) by omega]; exact h3 _ hi'
theorem Cur.set {w : World} {base g : Nat} {bs : List Nat} (hc : Cur w base g bs) {a' : Option Addr} {c' : Nat} {bs' : List Nat} (hr : RowLt w base a' bs') (hl : bs'.length ≤ c') (hm : c' ≤ maxLen) (hn : a' = none → bs'.length = 0 ∧ c' = 0) :
    Cur (w.setCell ⟨g, 0, none⟩ (.slice a' bs'.length c')) base g bs' := by
  obtain ⟨hg, a, cap, hh, _⟩ := hc
  refine ⟨hg, a', c', ?_, hr.below ((Below.refl _ _).setCell hg _), hl, hm, hn⟩
  rw [heap_setCell_same w g 0 _ _ _ hh]
  rfl

set_option maxRecDepth 100000 in
set_option maxHeartbeats 400000 in
theorem next_cut (base g n : Nat) (bs : List Nat) (w : World) (hc : Cur w base g bs) (hn : bs.length < n) (_ : n ≤ maxLen) :
    Calls Try.prog 72 #[.pointer (some ⟨g, 0, none⟩), .int .i64 (n : Int)] w fun e w' => e = .panicked [{ v := .iface 31 (.int .i64 20), recovered := false }] ∧ w' = w := by
  obtain ⟨hg, a, cap, hh, hr, hl, hm, hnil⟩ := hc
  have hcell : w.cell? ⟨g, 0, none⟩ = some (.slice a bs.length cap) := by rw [cell_of_row _ _ _ _ _ _ hh]; rfl
  unfold maxLen at hm
  have hd : decide ((bs.length : Int) < (n : Int)) = true := by simp; omega
  clear hr hnil hh
  go_enter Try.func72, Try.ntmps72
  go_wp2
  exact ⟨rfl, rfl, rfl⟩

set_option maxRecDepth 100000 in
set_option maxHeartbeats 400000 in
theorem next_ok (base g n : Nat) (bs : List Nat) (w : World) (hc : Cur w base g bs) (hn : n ≤ bs.length) :
    Calls Try.prog 72 #[.pointer (some ⟨g, 0, none⟩), .int .i64 (n : Int)] w fun e w' => (∃ a cap, e = .returned (.slice a n cap) ∧ RowLt w' base a (bs.take n) ∧ (a = none → n = 0 ∧ cap = 0)) ∧ Cur w' base g (bs.drop n) ∧ Below base w w' := by
  have hcur := hide_it hc
  obtain ⟨hg, a, cap, hh, hr, hl, hm, hnil⟩ := hc
  have hb : ∀ v, Below base w (w.setCell ⟨g, 0, none⟩ v) := fun v => (Below.refl _ _).setCell hg v
  have hcell : w.cell? ⟨g, 0, none⟩ = some (.slice a bs.length cap) := by rw [cell_of_row _ _ _ _ _ _ hh]; rfl
  have hfz := frozen_of_row w g 0 _ _ hh
  unfold maxLen at hm
  have hd : decide ((bs.length : Int) < (n : Int)) = false := by simp; omega
  go_enter Try.func72, Try.ntmps72
  go_wp2
  all_goals go_ret
  · refine ⟨⟨_, _, rfl, (hr.take n).below (hb _), fun e => by have := hnil e; omega⟩, ?_, (Below.refl _ _).setCell hg _⟩
    have e0 : bs.drop n = [] := List.drop_eq_nil_of_le (by omega)
    have e1 : bs.length - n = (bs.drop n).length := by simp
    rw [e1]
    exact hcur.out.set (.inl (by rw [e0]; rfl)) (by rw [e0]; simp) (by unfold maxLen; omega) (fun _ => ⟨by rw [e0]; rfl, rfl⟩)
  · refine ⟨⟨_, _, rfl, (hr.take n).below (hb _), fun e => by have := hnil e; omega⟩, ?_, (Below.refl _ _).setCell hg _⟩
    have e1 : bs.length - n = (bs.drop n).length := by simp
    rw [e1]
    refine hcur.out.set (hr.drop n) (by simp; omega) (by unfold maxLen; omega) (fun e => ?_)
    have e2 : a = none := by cases a <;> simp_all
    have := hnil e2
    simp; omega
end Go.Proofs.Ytfhinodieghklab
