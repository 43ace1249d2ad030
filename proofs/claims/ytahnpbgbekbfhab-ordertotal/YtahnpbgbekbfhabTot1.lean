/- Three items made in one line, in whatever order. -/
import Derived.Test.YtahnpbgbekbfhabNx1
import Derived.Test.YtahnpbgbekbfhabReg2
namespace Go.Proofs.Ytahnpbgbekbfhab.orderTotal
open Go.RowKit

attribute [local go_sem] st_float st_complex

section
variable {ops : Array Oper} {Q : Exit → Act → World → Prop} {S : World → Prop}

/-- The steps that may come up, each on its own. -/
theorem ready_all {rs : List Nat} {fuel : Nat} {listed : Array Bool} {a : Act} {w : World} (hr : Region.ready .any ops listed = rs) (hne : rs ≠ [])
    (h : ∀ i ∈ rs, ∃ o, ops.toList[i]? = some o ∧ ∀ K' : Act → World → Prop, Shut (∀ a w, S w → (S w → wpAnyH Try.prog .any ops Q S fuel (listed.setIfInBounds i true) a w) → K' a w) → if Region.wanted o (yielded ops a.tmps) = true then Oper.wp Try.prog o a w K' Q else K' (a.put o.dst undef) w) :
    wpAnyH Try.prog .any ops Q S (fuel + 1) listed a w :=
  wpAnyH_ready hr hne fun i hi => by
    obtain ⟨o, ho, h2⟩ := h i hi
    exact (AllReadyH.cons (get_of_list ho) h2 AllReadyH.nil) i (List.mem_singleton.2 rfl)

/-- A place that may be there already. -/
def pl : Option Nat → Value
  | none => undef
  | some g => .pointer (some ⟨g, 0, none⟩)
/-- What stands in the slots. -/
def actT (x y z : It) (b : Nat) (v17 v19 v21 v7 v8 v9 : Value) : Act := { tmps := #[(valR x), (valR y), (valR z), .pointer (some ⟨b, 0, none⟩), .pointer (some ⟨b + 1, 0, none⟩), .pointer (some ⟨b + 1 + 1, 0, none⟩), .bool false, v7, v8, v9, undef, undef, undef, undef, .bool true, .bool false, (valR x), v17, (valR y), v19, (valR z), v21, undef, undef, undef, undef, undef, undef, undef, undef, undef, undef, undef, undef, undef, undef, undef, undef, undef, undef, undef, undef, undef, undef, undef, undef, undef, undef, undef, undef, undef, undef, undef, undef, undef, undef, undef, undef, undef, undef, undef, undef, undef, undef, undef, undef, undef, undef, undef, undef, undef, undef, undef, undef, undef, undef, undef, undef, undef, undef, undef, undef, undef, undef, undef, undef, undef], defers := [] }
def lst (c1 c2 c3 p q r : Bool) : Array Bool := #[true, c1, true, c2, true, c3, p, q, r, false, false, false]
def rdy (c1 c2 c3 p q r : Bool) : List Nat := (if c1 then (if c2 then (if c3 then [] else [5]) else [3]) else [1]) ++ (if p then [] else [6]) ++ (if q then [] else [7]) ++ (if r then [] else [8])
theorem rdy_ne : ∀ c1 c2 c3 p q r : Bool, (c2 = true → c1 = true) → (c3 = true → c2 = true) → ¬ (c3 = true ∧ p = true ∧ q = true ∧ r = true) → rdy c1 c2 c3 p q r ≠ [] := by decide
theorem rdy_mem {c1 c2 c3 p q r : Bool} {i : Nat} (h : i ∈ rdy c1 c2 c3 p q r) : (i = 1 ∧ c1 = false) ∨ (i = 3 ∧ c1 = true ∧ c2 = false) ∨ (i = 5 ∧ c2 = true ∧ c3 = false) ∨ (i = 6 ∧ p = false) ∨ (i = 7 ∧ q = false) ∨ (i = 8 ∧ r = false) := by
  unfold rdy at h
  cases c1 <;> cases c2 <;> cases c3 <;> cases p <;> cases q <;> cases r <;> simp at h ⊢ <;> omega
/-- A place of one's own that holds an item with nothing in it. -/
def At (B : Nat) (w : World) (o : Option Nat) : Prop := ∀ g, o = some g → BoxI w g (it0 0) ∧ B ≤ g
def Ne (o u : Option Nat) : Prop := ∀ g, o = some g → u ≠ some g
theorem At.below {B : Nat} {w w' : World} {o : Option Nat} (h : At B w o) (hb : Below w.heap.size w w') : At B w' o := fun g e => ⟨(h g e).1.below hb (h g e).1.lt, (h g e).2⟩
theorem At.inside {B : Nat} {w : World} {o : Option Nat} (h : At B w o) : Ne o (some w.heap.size) := fun g e e2 => by
  have := (h g e).1.lt
  cases e2
  omega
theorem Ne.symm {o u : Option Nat} (h : Ne o u) : Ne u o := fun g e e2 => h g e2 e
structure St (w0 w : World) (o7 o8 o9 : Option Nat) : Prop where
  bel : Below w0.heap.size w0 w
  a7 : At w0.heap.size w o7
  a8 : At w0.heap.size w o8
  a9 : At w0.heap.size w o9
  n78 : Ne o7 o8
  n79 : Ne o7 o9
  n89 : Ne o8 o9
theorem St.call {w0 w w' : World} {o7 o8 o9 : Option Nat} (h : St w0 w o7 o8 o9) (hb : Below w.heap.size w w') : St w0 w' o7 o8 o9 :=
  ⟨h.bel.trans (hb.mono h.bel.size), h.a7.below hb, h.a8.below hb, h.a9.below hb, h.n78, h.n79, h.n89⟩
/-- The world with an item more. -/
abbrev wzero (w : World) : World := w.alloc (.cells #[.int .i64 0, .bool false, .int .i64 0, .float .f64 0, .complex .f64 0 0, .string ByteArray.empty] 39)
theorem At.new {w0 w : World} (hb : w0.heap.size ≤ w.heap.size) : At w0.heap.size (wzero w) (some w.heap.size) := fun g e => by
  cases e
  exact ⟨BoxI.new w (it0 0), hb⟩
theorem St.new7 {w0 w : World} {o8 o9 : Option Nat} (h : St w0 w none o8 o9) : St w0 (wzero w) (some w.heap.size) o8 o9 := by
  have hb : Below w.heap.size w (wzero w) := (Below.refl _ _).alloc (Nat.le_refl _) _
  have h2 := h.call hb
  exact ⟨h2.bel, At.new h.bel.size, h2.a8, h2.a9, h.a8.inside.symm, h.a9.inside.symm, h.n89⟩
theorem St.new8 {w0 w : World} {o7 o9 : Option Nat} (h : St w0 w o7 none o9) : St w0 (wzero w) o7 (some w.heap.size) o9 := by
  have hb : Below w.heap.size w (wzero w) := (Below.refl _ _).alloc (Nat.le_refl _) _
  have h2 := h.call hb
  exact ⟨h2.bel, h2.a7, At.new h.bel.size, h2.a9, h.a7.inside, h.n79, h.a9.inside.symm⟩
theorem St.new9 {w0 w : World} {o7 o8 : Option Nat} (h : St w0 w o7 o8 none) : St w0 (wzero w) o7 o8 (some w.heap.size) := by
  have hb : Below w.heap.size w (wzero w) := (Below.refl _ _).alloc (Nat.le_refl _) _
  have h2 := h.call hb
  exact ⟨h2.bel, h2.a7, h2.a8, At.new h.bel.size, h.n78, h.a7.inside, h.a8.inside⟩

/-- How much is left to do. -/
def lft (c : Nat) (o7 o8 o9 : Option Nat) : Nat := (3 - c) + (if o7.isSome then 0 else 1) + (if o8.isSome then 0 else 1) + (if o9.isSome then 0 else 1)
/-- A call's answer, once it is there. -/
def got (c k : Nat) (x : It) : Value := if k < c then valI x else undef

set_option maxRecDepth 100000 in
set_option maxHeartbeats 2000000 in
theorem three_made {x y z : It} {b : Nat} {w0 : World} {p1 p3 p5 p6 p7 p8 : String} {f1 f3 f5 f6 f7 f8 : Array Edge}
    (h1 : ops.toList[1]? = some { dst := some 17, op := .call { callee := .value (.func 17), args := #[.tmp 16], argTypes := #[44] }, type := 39, pos := p1, after := f1, guard := none })
    (h3 : ops.toList[3]? = some { dst := some 19, op := .call { callee := .value (.func 17), args := #[.tmp 18], argTypes := #[44] }, type := 39, pos := p3, after := f3, guard := none })
    (h5 : ops.toList[5]? = some { dst := some 21, op := .call { callee := .value (.func 17), args := #[.tmp 20], argTypes := #[44] }, type := 39, pos := p5, after := f5, guard := none })
    (h6 : ops.toList[6]? = some { dst := some 7, op := .alloc 39, type := 0, pos := p6, after := f6, guard := none })
    (h7 : ops.toList[7]? = some { dst := some 8, op := .alloc 39, type := 0, pos := p7, after := f7, guard := none })
    (h8 : ops.toList[8]? = some { dst := some 9, op := .alloc 39, type := 0, pos := p8, after := f8, guard := none })
    (hr : ∀ c1 c2 c3 p q r : Bool, (c2 = true → c1 = true) → (c3 = true → c2 = true) → ¬ (c3 = true ∧ p = true ∧ q = true ∧ r = true) → Region.ready .any ops (lst c1 c2 c3 p q r) = rdy c1 c2 c3 p q r)
    (hS : ∀ w, Below w0.heap.size w0 w → S w)
    (hfin : ∀ (g7 g8 g9 : Nat) (w : World), St w0 w (some g7) (some g8) (some g9) → wpAnyH Try.prog .any ops Q S 3 (lst true true true true true true) (actT x y z b (valI x) (valI y) (valI z) (pl (some g7)) (pl (some g8)) (pl (some g9))) w) :
    ∀ (m c : Nat) (o7 o8 o9 : Option Nat) (w : World), c ≤ 3 → lft c o7 o8 o9 = m → St w0 w o7 o8 o9 →
      wpAnyH Try.prog .any ops Q S (m + 3) (lst (decide (0 < c)) (decide (1 < c)) (decide (2 < c)) o7.isSome o8.isSome o9.isSome) (actT x y z b (got c 0 x) (got c 1 y) (got c 2 z) (pl o7) (pl o8) (pl o9)) w := by
  intro m
  induction m with
  | zero =>
    intro c o7 o8 o9 w hc hl hst
    unfold lft at hl
    match o7, o8, o9, hl, hst with
    | none, _, _, hl, _ => simp at hl
    | some g7, none, _, hl, _ => simp at hl
    | some g7, some g8, none, hl, _ => simp at hl
    | some g7, some g8, some g9, hl, hst =>
      have hc3 : c = 3 := by simp at hl; omega
      subst hc3
      exact hfin g7 g8 g9 w hst
  | succ n ih =>
    intro c o7 o8 o9 w hc hl hst
    have hne : ¬ (decide (2 < c) = true ∧ o7.isSome = true ∧ o8.isSome = true ∧ o9.isSome = true) := by
      rintro ⟨e1, e2, e3, e4⟩
      unfold lft at hl
      rw [e2, e3, e4] at hl
      have := of_decide_eq_true e1
      simp at hl
      omega
    have hrr := hr (decide (0 < c)) (decide (1 < c)) (decide (2 < c)) o7.isSome o8.isSome o9.isSome (by simp; omega) (by simp; omega) hne
    rw [show n + 1 + 3 = (n + 3) + 1 by omega]
    refine ready_all hrr ?_ ?_
    · exact rdy_ne _ _ _ _ _ _ (by simp; omega) (by simp; omega) hne
    · intro i hi
      rcases rdy_mem hi with ⟨rfl, e1⟩ | ⟨rfl, e1, e2⟩ | ⟨rfl, e1, e2⟩ | ⟨rfl, e1⟩ | ⟨rfl, e1⟩ | ⟨rfl, e1⟩
      · obtain rfl : c = 0 := by simpa using e1
        refine ⟨_, h1, fun K hK => ?_⟩
        rw [if_pos (by rfl)]
        unfold actT
        go_simp
        refine (lawItem_any x w).mono ?_
        rintro e w' ⟨rfl, hb⟩
        go_wp2_with fail
        refine hK.out _ _ (hS _ (hst.call hb).bel) (fun _ => ?_)
        exact ih 1 o7 o8 o9 w' (by omega) (by unfold lft at hl ⊢; omega) (hst.call hb)
      · obtain rfl : c = 1 := by simp at e1 e2; omega
        refine ⟨_, h3, fun K hK => ?_⟩
        rw [if_pos (by rfl)]
        unfold actT
        go_simp
        refine (lawItem_any y w).mono ?_
        rintro e w' ⟨rfl, hb⟩
        go_wp2_with fail
        refine hK.out _ _ (hS _ (hst.call hb).bel) (fun _ => ?_)
        exact ih 2 o7 o8 o9 w' (by omega) (by unfold lft at hl ⊢; omega) (hst.call hb)
      · obtain rfl : c = 2 := by simp at e1 e2; omega
        refine ⟨_, h5, fun K hK => ?_⟩
        rw [if_pos (by rfl)]
        unfold actT
        go_simp
        refine (lawItem_any z w).mono ?_
        rintro e w' ⟨rfl, hb⟩
        go_wp2_with fail
        refine hK.out _ _ (hS _ (hst.call hb).bel) (fun _ => ?_)
        exact ih 3 o7 o8 o9 w' (by omega) (by unfold lft at hl ⊢; omega) (hst.call hb)
      · obtain rfl : o7 = none := Option.isNone_iff_eq_none.1 (by simpa using e1)
        refine ⟨_, h6, fun K hK => ?_⟩
        rw [if_pos (by rfl)]
        unfold actT
        go_simp
        refine hK.out _ _ (hS _ hst.new7.bel) (fun _ => ?_)
        exact ih c (some w.heap.size) o8 o9 _ hc (by unfold lft at hl ⊢; simp at hl ⊢; omega) hst.new7
      · obtain rfl : o8 = none := Option.isNone_iff_eq_none.1 (by simpa using e1)
        refine ⟨_, h7, fun K hK => ?_⟩
        rw [if_pos (by rfl)]
        unfold actT
        go_simp
        refine hK.out _ _ (hS _ hst.new8.bel) (fun _ => ?_)
        exact ih c o7 (some w.heap.size) o9 _ hc (by unfold lft at hl ⊢; simp at hl ⊢; omega) hst.new8
      · obtain rfl : o9 = none := Option.isNone_iff_eq_none.1 (by simpa using e1)
        refine ⟨_, h8, fun K hK => ?_⟩
        rw [if_pos (by rfl)]
        unfold actT
        go_simp
        refine hK.out _ _ (hS _ hst.new9.bel) (fun _ => ?_)
        exact ih c o7 o8 (some w.heap.size) _ hc (by unfold lft at hl ⊢; simp at hl ⊢; omega) hst.new9

end

end Go.Proofs.Ytahnpbgbekbfhab.orderTotal
