/- Accounts: a box that holds one call; an account that is there. -/
import Derived.Test.YtepkhohaahmebaaQa4
namespace Go.Proofs.Ytepkhohaahmebaa
open Go.RowKit

/-- In block b lies one call. -/
def BoxO (w : World) (b : Nat) (o : Opq) : Prop := w.heap[b]? = some (.cells #[.int .i64 o.k, .int .i64 o.i, .int .i64 o.a, .int .i64 o.b, .int .i64 o.c] 30 (0, 0))
section
variable {w w' : World} {b : Nat} {o : Opq}
theorem BoxO.lt (h : BoxO w b o) : b < w.heap.size := (Array.getElem?_eq_some_iff.1 h).1
theorem BoxO.below (h : BoxO w b o) (hb : Below w.heap.size w w') : BoxO w' b o := (hb.block b h.lt).trans h
theorem BoxO.keep (h : BoxO w b o) (e : w'.heap[b]? = w.heap[b]?) : BoxO w' b o := e.trans h
theorem BoxO.cells (h : BoxO w b o) : w.cell? ⟨b, 0, none⟩ = some (.int .i64 o.k) ∧ w.cell? ⟨b, 1, none⟩ = some (.int .i64 o.i) ∧ w.cell? ⟨b, 2, none⟩ = some (.int .i64 o.a) ∧ w.cell? ⟨b, 3, none⟩ = some (.int .i64 o.b) ∧ w.cell? ⟨b, 4, none⟩ = some (.int .i64 o.c) :=
  ⟨cell_of_row _ _ _ _ _ _ h, cell_of_row _ _ _ _ _ _ h, cell_of_row _ _ _ _ _ _ h, cell_of_row _ _ _ _ _ _ h, cell_of_row _ _ _ _ _ _ h⟩
theorem BoxO.new (w : World) (o : Opq) : BoxO (w.alloc (.cells #[.int .i64 o.k, .int .i64 o.i, .int .i64 o.a, .int .i64 o.b, .int .i64 o.c] 30)) w.heap.size o := heap_alloc_new w _
end
theorem ptrA_t {c : Ac} (h : c.t = true) (b : Nat) : ptrA c b = .pointer (some ⟨b, 0, none⟩) := by unfold ptrA; rw [if_pos h]
/-- New: made, or not. -/
theorem newA_ways (x y : Int) : (newA x y = ⟨true, x, y, 0, 0, 0⟩ ∧ newE x y = 0 ∧ 0 ≤ x ∧ x ≤ 1048576 ∧ 0 ≤ y ∧ y ≤ 32) ∨ (newA x y = noAc ∧ newE x y = 2) := by
  unfold newA newE
  by_cases h : (isB x && decide (0 ≤ y ∧ y ≤ 32)) = true
  · rw [if_pos h, if_pos h]
    simp only [isB, Bool.and_eq_true, decide_eq_true_eq] at h
    exact .inl ⟨rfl, rfl, h.1.1, h.1.2, h.2.1, h.2.2⟩
  · rw [if_neg h, if_neg h]
    exact .inr ⟨rfl, rfl⟩
theorem setE_0 {c : Ac} {x : Int} (h : setE c x = 0) : c.t = true ∧ isB x = true ∧ setFit c x = true := by
  unfold setE at h
  cases ht : c.t <;> cases hb : isB x <;> cases hf : setFit c x <;> simp [ht, hb, hf] at h ⊢
theorem begE_0 {c : Ac} (h : begE c = 0) : c.t = true ∧ c.o < c.m := by
  unfold begE at h
  cases ht : c.t <;> by_cases hb : c.o < c.m <;> simp [ht, hb] at h ⊢
theorem chgE_0 {c : Ac} {x y : Int} (h : chgE c x y = 0) : c.t = true ∧ chgOk c x y = true ∧ chgFit c x y = true := by
  unfold chgE at h
  cases ht : c.t <;> cases hb : chgOk c x y <;> cases hf : chgFit c x y <;> simp [ht, hb, hf] at h ⊢
/-- An account in block b that was made since w0, beside a box in block d. -/
structure Sa (w0 w : World) (b d : Nat) (c : Ac) (o : Opq) : Prop where
  there : c.t = true
  pk : Pa w b c
  ok : AcOk c
  low : w0.heap.size ≤ b
  box : BoxO w d o
  bel : Below w0.heap.size w0 w
section
variable {w0 w w' : World} {b d : Nat} {c c' : Ac} {o : Opq}
theorem Sa.below (h : Sa w0 w b d c o) (hb : Below w.heap.size w w') : Sa w0 w' b d c o := ⟨h.there, h.pk.below hb, h.ok, h.low, h.box.below hb, h.bel.trans (hb.mono h.bel.size)⟩
theorem Sa.went (h : Sa w0 w b d c o) (ht : c'.t = c.t) (hok : AcOk c') (hw : Went w b c c' w') : Sa w0 w' b d c' o :=
  ⟨ht.trans h.there, hw.pk, hok, h.low, h.box.keep (hw.chg.block d h.box.lt (fun x => by
    have e := h.pk h.there
    rw [← x.2, h.box] at e
    injection e with e
    injection e with _ e2 _
    exact absurd e2 (by decide))), h.bel.trans (hw.below h.low h.bel.size)⟩
theorem Sa.pends (h : Sa w0 w b d c o) : Calls Try.prog 20 #[.pointer (some ⟨b, 0, none⟩)] w fun e w' => e = .returned (.int .i64 c.p) ∧ w' = w := by
  have h1 := pending_any c h.ok b w h.pk
  rwa [ptrA_t h.there] at h1
theorem Sa.opens (h : Sa w0 w b d c o) : Calls Try.prog 21 #[.pointer (some ⟨b, 0, none⟩)] w fun e w' => e = .returned (.int .i64 c.o) ∧ w' = w := by
  have h1 := open_any c h.ok b w h.pk
  rwa [ptrA_t h.there] at h1
theorem Sa.uses (h : Sa w0 w b d c o) : Calls Try.prog 18 #[.pointer (some ⟨b, 0, none⟩)] w fun e w' => e = .returned (.int .i64 (c.l + c.p)) ∧ Sa w0 w' b d c o := by
  have h1 := used_any c h.ok b w h.pk
  rw [ptrA_t h.there] at h1
  exact h1.mono fun e w' ⟨h2, h3⟩ => ⟨h2, h.below h3⟩
theorem Sa.begins (h : Sa w0 w b d c o) : Calls Try.prog 10 #[.pointer (some ⟨b, 0, none⟩)] w fun e w' => e = .returned (.int .i64 (begE c)) ∧ Sa w0 w' b d (begA c) o := by
  have h1 := begin_any c h.ok b w h.pk
  rw [ptrA_t h.there] at h1
  exact h1.mono fun e w' ⟨h2, h3⟩ => ⟨h2, h.went (begA_t c) (begA_ok h.ok) h3⟩
theorem Sa.charges (h : Sa w0 w b d c o) (x y : Int) : Calls Try.prog 12 #[.pointer (some ⟨b, 0, none⟩), .int .i64 x, .int .i64 y] w fun e w' => e = .returned (.int .i64 (chgE c x y)) ∧ Sa w0 w' b d (chgA c x y) o := by
  have h1 := charge_any c h.ok b w h.pk x y
  rw [ptrA_t h.there] at h1
  exact h1.mono fun e w' ⟨h2, h3⟩ => ⟨h2, h.went (chgA_t c x y) (chgA_ok h.ok x y) h3⟩
theorem Sa.ends (h : Sa w0 w b d c o) (x : Int) : Calls Try.prog 14 #[.pointer (some ⟨b, 0, none⟩), .int .i64 x] w fun e w' => e = .returned (.int .i64 (endE c x)) ∧ Sa w0 w' b d (endA c x) o := by
  have h1 := end_any c h.ok b w h.pk x
  rw [ptrA_t h.there] at h1
  exact h1.mono fun e w' ⟨h2, h3⟩ => ⟨h2, h.went (endA_t c x) (endA_ok h.ok x) h3⟩
theorem Sa.settles (h : Sa w0 w b d c o) (x : Int) : Calls Try.prog 16 #[.pointer (some ⟨b, 0, none⟩), .int .i64 x] w fun e w' => e = .returned (.int .i64 (setE c x)) ∧ Sa w0 w' b d (setA c x) o := by
  have h1 := settle_any c h.ok b w h.pk x
  rw [ptrA_t h.there] at h1
  exact h1.mono fun e w' ⟨h2, h3⟩ => ⟨h2, h.went (setA_t c x) (setA_ok h.ok x) h3⟩
theorem Sa.ones (h : Sa w0 w b d c o) (k i x y z : Int) : Calls Try.prog 23 #[.pointer (some ⟨b, 0, none⟩), .agg #[.int .i64 k, .int .i64 i, .int .i64 x, .int .i64 y, .int .i64 z]] w fun e w' => e = .returned (.bool (stepE k x y c == 0)) ∧ Sa w0 w' b d (stepA k x y c) o := by
  have h1 := one_any c h.ok b k i x y z w h.pk
  rw [ptrA_t h.there] at h1
  exact h1.mono fun e w' ⟨h2, h3⟩ => ⟨h2, h.went (stepA_t k x y c) (stepA_ok h.ok k x y) h3⟩
end

end Go.Proofs.Ytepkhohaahmebaa
