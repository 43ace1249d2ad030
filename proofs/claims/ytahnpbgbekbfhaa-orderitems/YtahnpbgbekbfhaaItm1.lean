/- Two items made in one line, in whatever order. -/
import Derived.Test.YtahnpbgbekbfhaaRf12
import Derived.Test.YtahnpbgbekbfhaaOw17
namespace Go.Proofs.Ytahnpbgbekbfhaa.orderItems
open Go.RowKit

attribute [local go_sem] st_float st_complex

section
variable {ops : Array Oper} {Q : Exit → Act → World → Prop} {S : World → Prop}

/-- A place that may be there already. -/
def pl : Option Nat → Value
  | none => undef
  | some g => .pointer (some ⟨g, 0, none⟩)
/-- What stands in the slots. -/
def actI (x : It) (b : Nat) (v6 v7 v9 v10 v3 v4 : Value) : Act := { tmps := #[(valR x), .pointer (some ⟨b, 0, none⟩), .bool false, v3, v4, (valR x), v6, v7, (valR x), v9, v10, undef, undef, undef, undef, undef, undef, undef, undef, undef, undef, undef, undef, undef, undef, undef, undef, undef, undef, undef, undef, undef, undef, undef, undef, undef, undef, undef, undef, undef, undef, undef, undef, undef, undef, undef, undef, undef, undef, undef, undef, undef, undef, undef, undef, undef, undef, undef, undef, undef, undef, undef, undef, undef, undef, undef, undef, undef, undef, undef, undef, undef, undef, undef, undef, undef, undef, undef], defers := [] }
def lst (c1 c2 c3 c4 p q : Bool) : Array Bool := #[true, c1, c2, true, c3, c4, p, q, false, false]
def rdy (c1 c2 c3 c4 p q : Bool) : List Nat := (if c1 then (if c2 then (if c3 then (if c4 then [] else [5]) else [4]) else [2]) else [1]) ++ (if p then [] else [6]) ++ (if q then [] else [7])
theorem rdy_ne : ∀ c1 c2 c3 c4 p q : Bool, (c2 = true → c1 = true) → (c3 = true → c2 = true) → (c4 = true → c3 = true) → ¬ (c4 = true ∧ p = true ∧ q = true) → rdy c1 c2 c3 c4 p q ≠ [] := by decide
theorem rdy_mem {c1 c2 c3 c4 p q : Bool} {i : Nat} (h : i ∈ rdy c1 c2 c3 c4 p q) : (i = 1 ∧ c1 = false) ∨ (i = 2 ∧ c1 = true ∧ c2 = false) ∨ (i = 4 ∧ c2 = true ∧ c3 = false) ∨ (i = 5 ∧ c3 = true ∧ c4 = false) ∨ (i = 6 ∧ p = false) ∨ (i = 7 ∧ q = false) := by
  unfold rdy at h
  cases c1 <;> cases c2 <;> cases c3 <;> cases c4 <;> cases p <;> cases q <;> simp at h ⊢ <;> omega
structure St (w0 w : World) (o3 o4 : Option Nat) : Prop where
  bel : Below w0.heap.size w0 w
  a3 : ∀ g, o3 = some g → BoxI w g (it0 0) ∧ w0.heap.size ≤ g
  a4 : ∀ g, o4 = some g → DocB w g (it0 0) ∧ w0.heap.size ≤ g
  ne : ∀ g, o3 = some g → o4 ≠ some g
theorem St.call {w0 w w' : World} {o3 o4 : Option Nat} (h : St w0 w o3 o4) (hb : Below w.heap.size w w') : St w0 w' o3 o4 :=
  ⟨h.bel.trans (hb.mono h.bel.size), fun g e => ⟨(h.a3 g e).1.below hb (h.a3 g e).1.lt, (h.a3 g e).2⟩, fun g e => ⟨(h.a4 g e).1.below hb (h.a4 g e).1.lt, (h.a4 g e).2⟩, h.ne⟩
abbrev wzI (w : World) : World := w.alloc (.cells #[.int .i64 0, .bool false, .int .i64 0, .float .f64 0, .complex .f64 0 0, .string ByteArray.empty] 29)
abbrev wzD (w : World) : World := w.alloc (.cells #[.int .i64 0, .bool false, .int .i64 0, .int .u64 0, .int .u64 0, .int .u64 0, .string ByteArray.empty] 32)
theorem St.new3 {w0 w : World} {o4 : Option Nat} (h : St w0 w none o4) : St w0 (wzI w) (some w.heap.size) o4 := by
  have hb : Below w.heap.size w (wzI w) := (Below.refl _ _).alloc (Nat.le_refl _) _
  have h2 := h.call hb
  refine ⟨h2.bel, fun g e => ?_, h2.a4, fun g e e2 => ?_⟩
  · cases e; exact ⟨BoxI.new w (it0 0), h.bel.size⟩
  · cases e
    have := (h.a4 _ e2).1.lt
    omega
theorem St.new4 {w0 w : World} {o3 : Option Nat} (h : St w0 w o3 none) : St w0 (wzD w) o3 (some w.heap.size) := by
  have hb : Below w.heap.size w (wzD w) := (Below.refl _ _).alloc (Nat.le_refl _) _
  have h2 := h.call hb
  refine ⟨h2.bel, h2.a3, fun g e => ?_, fun g e e2 => ?_⟩
  · cases e; exact ⟨DocB.new w (it0 0), h.bel.size⟩
  · cases e2
    have := (h.a3 _ e).1.lt
    omega
def lft (c : Nat) (o3 o4 : Option Nat) : Nat := (4 - c) + (if o3.isSome then 0 else 1) + (if o4.isSome then 0 else 1)
def got (c k : Nat) (v : Value) : Value := if k < c then v else undef
theorem got_yes {c k : Nat} (h : k < c) (v : Value) : got c k v = v := if_pos h

set_option maxRecDepth 100000 in
set_option maxHeartbeats 2000000 in
theorem two_made {x : It} (hx : ItOk x) {b : Nat} {w0 : World} {p1 p2 p4 p5 p6 p7 : String} {f1 f2 f4 f5 f6 f7 : Array Edge}
    (h1 : ops.toList[1]? = some { dst := some 6, op := .call { callee := .value (.func 11), args := #[.tmp 5], argTypes := #[25] }, type := 29, pos := p1, after := f1, guard := none })
    (h2 : ops.toList[2]? = some { dst := some 7, op := .call { callee := .value (.func 10), args := #[.tmp 6], argTypes := #[29] }, type := 29, pos := p2, after := f2, guard := none })
    (h4 : ops.toList[4]? = some { dst := some 9, op := .call { callee := .value (.func 13), args := #[.tmp 8], argTypes := #[25] }, type := 32, pos := p4, after := f4, guard := none })
    (h5 : ops.toList[5]? = some { dst := some 10, op := .call { callee := .value (.func 12), args := #[.tmp 9], argTypes := #[32] }, type := 32, pos := p5, after := f5, guard := none })
    (h6 : ops.toList[6]? = some { dst := some 3, op := .alloc 29, type := 0, pos := p6, after := f6, guard := none })
    (h7 : ops.toList[7]? = some { dst := some 4, op := .alloc 32, type := 0, pos := p7, after := f7, guard := none })
    (hr : ∀ c1 c2 c3 c4 p q : Bool, (c2 = true → c1 = true) → (c3 = true → c2 = true) → (c4 = true → c3 = true) → ¬ (c4 = true ∧ p = true ∧ q = true) → Region.ready .any ops (lst c1 c2 c3 c4 p q) = rdy c1 c2 c3 c4 p q)
    (hS : ∀ w, Below w0.heap.size w0 w → S w)
    (hfin : ∀ (g3 g4 : Nat) (w : World), St w0 w (some g3) (some g4) → wpAnyH Try.prog .any ops Q S 2 (lst true true true true true true) (actI x b (valI x) (valI (cln x)) (valR x) (valR (cln x)) (pl (some g3)) (pl (some g4))) w) :
    ∀ (m c : Nat) (o3 o4 : Option Nat) (w : World), c ≤ 4 → lft c o3 o4 = m → St w0 w o3 o4 →
      wpAnyH Try.prog .any ops Q S (m + 2) (lst (decide (0 < c)) (decide (1 < c)) (decide (2 < c)) (decide (3 < c)) o3.isSome o4.isSome) (actI x b (got c 0 (valI x)) (got c 1 (valI (cln x))) (got c 2 (valR x)) (got c 3 (valR (cln x))) (pl o3) (pl o4)) w := by
  intro m
  induction m with
  | zero =>
    intro c o3 o4 w hc hl hst
    unfold lft at hl
    match o3, o4, hl, hst with
    | none, _, hl, _ => simp at hl
    | some g3, none, hl, _ => simp at hl
    | some g3, some g4, hl, hst =>
      have hc3 : c = 4 := by simp at hl; omega
      subst hc3
      exact hfin g3 g4 w hst
  | succ n ih =>
    intro c o3 o4 w hc hl hst
    have hne : ¬ (decide (3 < c) = true ∧ o3.isSome = true ∧ o4.isSome = true) := by
      rintro ⟨e1, e2, e3⟩
      unfold lft at hl
      rw [e2, e3] at hl
      have := of_decide_eq_true e1
      simp at hl
      omega
    have hrr := hr (decide (0 < c)) (decide (1 < c)) (decide (2 < c)) (decide (3 < c)) o3.isSome o4.isSome (by simp; omega) (by simp; omega) (by simp; omega) hne
    rw [show n + 1 + 2 = (n + 2) + 1 by omega]
    refine ready_each hrr ?_ ?_
    · exact rdy_ne _ _ _ _ _ _ (by simp; omega) (by simp; omega) (by simp; omega) hne
    · intro i hi
      rcases rdy_mem hi with ⟨rfl, e1⟩ | ⟨rfl, e1, e2⟩ | ⟨rfl, e1, e2⟩ | ⟨rfl, e1, e2⟩ | ⟨rfl, e1⟩ | ⟨rfl, e1⟩
      · obtain rfl : c = 0 := by simpa using e1
        refine ⟨_, h1, fun K hK => ?_⟩
        rw [if_pos (by rfl)]
        unfold actI
        go_simp
        refine (lawItem_any x w).mono ?_
        rintro e w' ⟨rfl, hb⟩
        go_wp2_with fail
        refine hK.out _ _ (hS _ (hst.call hb).bel) (fun _ => ?_)
        exact ih 1 o3 o4 w' (by omega) (by unfold lft at hl ⊢; omega) (hst.call hb)
      · obtain rfl : c = 1 := by simp at e1 e2; omega
        refine ⟨_, h2, fun K hK => ?_⟩
        rw [if_pos (by rfl)]
        unfold actI
        try simp only [got_yes (show 0 < 1 by decide)]
        go_simp
        refine (clean_any x w hx).mono ?_
        rintro e w' ⟨rfl, hb⟩
        go_wp2_with fail
        refine hK.out _ _ (hS _ (hst.call hb).bel) (fun _ => ?_)
        exact ih 2 o3 o4 w' (by omega) (by unfold lft at hl ⊢; omega) (hst.call hb)
      · obtain rfl : c = 2 := by simp at e1 e2; omega
        refine ⟨_, h4, fun K hK => ?_⟩
        rw [if_pos (by rfl)]
        unfold actI
        go_simp
        refine (doc_any x w).mono ?_
        rintro e w' ⟨rfl, hb⟩
        go_wp2_with fail
        refine hK.out _ _ (hS _ (hst.call hb).bel) (fun _ => ?_)
        exact ih 3 o3 o4 w' (by omega) (by unfold lft at hl ⊢; omega) (hst.call hb)
      · obtain rfl : c = 3 := by simp at e1 e2; omega
        refine ⟨_, h5, fun K hK => ?_⟩
        rw [if_pos (by rfl)]
        unfold actI
        try simp only [got_yes (show 2 < 3 by decide)]
        go_simp
        refine (rclean_any x w hx).mono ?_
        rintro e w' ⟨rfl, hb⟩
        go_wp2_with fail
        refine hK.out _ _ (hS _ (hst.call hb).bel) (fun _ => ?_)
        exact ih 4 o3 o4 w' (by omega) (by unfold lft at hl ⊢; omega) (hst.call hb)
      · obtain rfl : o3 = none := Option.isNone_iff_eq_none.1 (by simpa using e1)
        refine ⟨_, h6, fun K hK => ?_⟩
        rw [if_pos (by rfl)]
        unfold actI
        go_simp
        refine hK.out _ _ (hS _ hst.new3.bel) (fun _ => ?_)
        exact ih c (some w.heap.size) o4 _ hc (by unfold lft at hl ⊢; simp at hl ⊢; omega) hst.new3
      · obtain rfl : o4 = none := Option.isNone_iff_eq_none.1 (by simpa using e1)
        refine ⟨_, h7, fun K hK => ?_⟩
        rw [if_pos (by rfl)]
        unfold actI
        go_simp
        refine hK.out _ _ (hS _ hst.new4.bel) (fun _ => ?_)
        exact ih c o3 (some w.heap.size) _ hc (by unfold lft at hl ⊢; simp at hl ⊢; omega) hst.new4
end

end Go.Proofs.Ytahnpbgbekbfhaa.orderItems
