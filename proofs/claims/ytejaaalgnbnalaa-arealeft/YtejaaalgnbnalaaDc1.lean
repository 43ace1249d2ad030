/- The document's area: its bytes and its marks in memory; what Append makes. -/
import Derived.Test.YtejaaalgnbnalaaSb1
import Derived.Test.YtejaaalgnbnalaaReg3
namespace Go.Proofs.Ytejaaalgnbnalaa
open Go.RowKit

theorem rowB_new (w : World) (z : Nat) : RowB (w.alloc (.cells #[.int .u8 (z : Int)] 5)) (some ⟨w.heap.size, 0, none⟩) [z] := by
  refine .inr ⟨_, _, rfl, by simp, fun i hi => ?_⟩
  have h0 : i = 0 := by simpa using hi
  subst h0
  rw [cell_of_row _ _ _ _ _ _ (heap_alloc_new w _)]
  rfl
theorem rowO_new (w : World) (z : Bool) : RowO (w.alloc (.cells #[.bool z] 4)) (some ⟨w.heap.size, 0, none⟩) [z] := by
  refine .inr ⟨_, _, rfl, by simp, fun i hi => ?_⟩
  have h0 : i = 0 := by simpa using hi
  subst h0
  rw [cell_of_row _ _ _ _ _ _ (heap_alloc_new w _)]
  rfl
theorem run_appendO (w : World) (ty : TypeId) (base : Nat) (v : Value) (xs : List Bool) (hown : OwO w base v xs) (a : Option Addr) (cap : Nat) (zs : List Bool) (hr : RowO w a zs) (hnil : a = none → zs.length = 0 ∧ cap = 0)
    (hl : xs.length + zs.length ≤ 211106232532800) (hbase : base ≤ w.heap.size) :
    ∃ v' w', (Builtin.append_ #[50, 50] ty #[v, .slice a zs.length cap]).run Try.prog w = .ok v' w' ∧ OwO w' base v' (xs ++ zs) ∧ w.grownBy w' v.ownBlock ∧ (v'.ownBlock = v.ownBlock ∨ v'.ownBlock = some w.heap.size) := by
  obtain ⟨v', w', h1, h2, h3, h4⟩ := run_append_S (P := Try.prog) 50 50 ty (.bool false) Try.underlying50 infoO rfl hown _ _ _ (srcO hr hnil) (by unfold maxLen; omega) (by omega) hbase
  exact ⟨v', w', h1, by unfold OwO; simpa using h2, h3, h4⟩
theorem wpList_appendO (w : World) {ops : Array Oper} {rest : List Oper} {o : Oper} {act : Act} {Q : Exit → Act → World → Prop} (hgd : o.guard = none) (s x : Operand)
    (ho : o.op = .call { callee := .builtin .append, args := #[s, x], argTypes := #[50, 50] })
    (base : Nat) (v : Value) (xs : List Bool) (hs : act.eval s = v) (hown : OwO w base v xs) (a : Option Addr) (cap : Nat) (zs : List Bool) (hx : act.eval x = .slice a zs.length cap) (hr : RowO w a zs) (hnil : a = none → zs.length = 0 ∧ cap = 0)
    (hl : xs.length + zs.length ≤ 211106232532800) (hbase : base ≤ w.heap.size)
    (h : ∀ v' w', OwO w' base v' (xs ++ zs) → w.grownBy w' v.ownBlock → (v'.ownBlock = v.ownBlock ∨ v'.ownBlock = some w.heap.size) → wpList Try.prog ops Q rest (act.put o.dst v') w') :
    wpList Try.prog ops Q (o :: rest) act w :=
  wpList_append_S hgd s x 50 50 ho (.bool false) Try.underlying50 infoO rfl hs hown _ hx _ _ (srcO hr hnil) (by unfold maxLen; omega) (by omega) hbase
    fun v' w' h2 h3 h4 => h v' w' (by unfold OwO; simpa using h2) h3 h4

/-- A block of a struct of the document's area. -/
def BoxD (w : World) (q : Nat) (B : Int) (da sa : Value) : Prop := w.heap[q]? = some (.cells #[.int .i64 B, da, sa] 52 (0, 0))
theorem BoxD.lt {w : World} {q : Nat} {B : Int} {da sa : Value} (h : BoxD w q B da sa) : q < w.heap.size := (Array.getElem?_eq_some_iff.1 h).1
theorem BoxD.cells {w : World} {q : Nat} {B : Int} {da sa : Value} (h : BoxD w q B da sa) : w.cell? ⟨q, 0, none⟩ = some (.int .i64 B) ∧ w.cell? ⟨q, 1, none⟩ = some da ∧ w.cell? ⟨q, 2, none⟩ = some sa ∧
    w.frozen? ⟨q, 0, none⟩ = false ∧ w.frozen? ⟨q, 1, none⟩ = false ∧ w.frozen? ⟨q, 2, none⟩ = false :=
  ⟨cell_of_row _ _ _ _ _ _ h, cell_of_row _ _ _ _ _ _ h, cell_of_row _ _ _ _ _ _ h, frozen_of_row _ _ _ _ _ h, frozen_of_row _ _ _ _ _ h, frozen_of_row _ _ _ _ _ h⟩
theorem BoxD.new (w : World) (B : Int) (da sa : Value) : BoxD (w.alloc (.cells #[.int .i64 B, da, sa] 52)) w.heap.size B da sa := heap_alloc_new w _
theorem BoxD.keep {w w' : World} {q : Nat} {B : Int} {da sa : Value} (h : BoxD w q B da sa) (hb : w'.heap[q]? = w.heap[q]?) : BoxD w' q B da sa := hb.trans h
theorem BoxD.below {w w' : World} {q : Nat} {B : Int} {da sa : Value} (h : BoxD w q B da sa) (hb : Below w.heap.size w w') : BoxD w' q B da sa := h.keep (hb.block q h.lt)
theorem BoxD.set1 {w : World} {q : Nat} {B : Int} {da sa : Value} (h : BoxD w q B da sa) (u : Value) : BoxD (w.setCell ⟨q, 1, none⟩ u) q B u sa := heap_setCell_same w q 1 _ _ u h
theorem BoxD.set2 {w : World} {q : Nat} {B : Int} {da sa : Value} (h : BoxD w q B da sa) (u : Value) : BoxD (w.setCell ⟨q, 2, none⟩ u) q B da u := heap_setCell_same w q 2 _ _ u h
/-- All three. -/
theorem BoxD.all {w : World} {q : Nat} {B : Int} {da sa : Value} (h : BoxD w q B da sa) (B' : Int) (da' sa' : Value) : BoxD (((w.setCell ⟨q, 0, none⟩ (.int .i64 B')).setCell ⟨q, 1, none⟩ da').setCell ⟨q, 2, none⟩ sa') q B' da' sa' :=
  heap_setCell_same _ q 2 _ _ sa' (heap_setCell_same _ q 1 _ _ da' (heap_setCell_same w q 0 _ _ (.int .i64 B') h))
theorem OwB.not_box {w : World} {base : Nat} {v : Value} {bs : List Nat} (h : OwB w base v bs) {q : Nat} {B : Int} {da sa : Value} (hq : BoxD w q B da sa) : v.ownBlock ≠ some q := fun e => by
  obtain ⟨cur, hc⟩ := OwnS.type h e
  rw [hq] at hc
  cases hc
theorem OwO.not_box {w : World} {base : Nat} {v : Value} {bs : List Bool} (h : OwO w base v bs) {q : Nat} {B : Int} {da sa : Value} (hq : BoxD w q B da sa) : v.ownBlock ≠ some q := fun e => by
  obtain ⟨cur, hc⟩ := OwnS.type h e
  rw [hq] at hc
  cases hc
theorem OwO.not_B {w : World} {base base' : Nat} {v u : Value} {fs : List Bool} {bs : List Nat} (h : OwO w base v fs) (h' : OwB w base' u bs) {j : Nat} (hv : v.ownBlock = some j) : u.ownBlock ≠ some j := fun e => by
  obtain ⟨cur, hc⟩ := OwnS.type h hv
  obtain ⟨cur', hc'⟩ := OwnS.type h' e
  rw [hc] at hc'
  cases hc'

/-- What is made so far of a copy: bytes, marks, the struct. -/
structure Mk (bs : List Nat) (fs : List Bool) (W0 w : World) (vB vO : Option Value) (q : Option Nat) : Prop where
  bel : Below W0.heap.size W0 w
  b : ∀ v, vB = some v → OwB w W0.heap.size v bs
  o : ∀ v, vO = some v → OwO w W0.heap.size v fs
  q : ∀ g, q = some g → W0.heap.size ≤ g ∧ BoxD w g 0 (.slice none 0 0) (.slice none 0 0)
section
variable {bs : List Nat} {fs : List Bool} {W0 w w' : World} {vB vO : Option Value} {q : Option Nat}
theorem Mk.call (h : Mk bs fs W0 w vB vO q) (hb : Below w.heap.size w w') : Mk bs fs W0 w' vB vO q :=
  ⟨h.bel.trans (hb.mono h.bel.size), fun v e => (h.b v e).below hb, fun v e => (h.o v e).below hb, fun g e => ⟨(h.q g e).1, (h.q g e).2.below hb⟩⟩
theorem Mk.drew (h : Mk bs fs W0 w vB vO q) : Mk bs fs W0 w.drew vB vO q := h.call (Below.refl _ _).drew
theorem Mk.start (bs : List Nat) (fs : List Bool) (W0 : World) : Mk bs fs W0 W0 none none none := ⟨Below.refl _ _, (fun v e => by cases e), (fun v e => by cases e), fun v e => by cases e⟩
theorem Mk.appB (h : Mk bs fs W0 w none vO q) (ty : TypeId) (a : Option Addr) (cap : Nat) (hr : RowB W0 a bs) (hnil : a = none → bs.length = 0 ∧ cap = 0) (hl : bs.length ≤ 211106232532800) {n : Nat} (hn : bs.length = n) :
    ∃ a' c' w', (Builtin.append_ #[23, 23] ty #[.slice none 0 0, .slice a n cap]).run Try.prog w = .ok (.slice a' n c') w' ∧ Mk bs fs W0 w' (some (.slice a' n c')) vO q := by
  obtain ⟨v, w', h1, h2, h3, h4⟩ := run_appendB w ty W0.heap.size (.slice none 0 0) [] (OwB.nil _ _) a cap bs (hr.below h.bel) hnil (by simp; omega) h.bel.size
  subst hn
  rw [List.nil_append] at h2
  obtain ⟨a', c', rfl, _⟩ := h2.row
  refine ⟨a', c', w', h1, ?_⟩
  have hb : Below w.heap.size w w' := (Below.refl _ _).grown h3 (Nat.le_refl _) (fun j e => by cases e)
  have h5 := h.call hb
  exact ⟨h5.bel, (fun v e => by cases e; exact h2), h5.o, h5.q⟩
theorem Mk.appO (h : Mk bs fs W0 w vB none q) (ty : TypeId) (a : Option Addr) (cap : Nat) (hr : RowO W0 a fs) (hnil : a = none → fs.length = 0 ∧ cap = 0) (hl : fs.length ≤ 211106232532800) {n : Nat} (hn : fs.length = n) :
    ∃ a' c' w', (Builtin.append_ #[50, 50] ty #[.slice none 0 0, .slice a n cap]).run Try.prog w = .ok (.slice a' n c') w' ∧ Mk bs fs W0 w' vB (some (.slice a' n c')) q := by
  obtain ⟨v, w', h1, h2, h3, h4⟩ := run_appendO w ty W0.heap.size (.slice none 0 0) [] (OwO.nil _ _) a cap fs (hr.below h.bel) hnil (by simp; omega) h.bel.size
  subst hn
  rw [List.nil_append] at h2
  obtain ⟨a', c', rfl, _⟩ := h2.row
  refine ⟨a', c', w', h1, ?_⟩
  have hb : Below w.heap.size w w' := (Below.refl _ _).grown h3 (Nat.le_refl _) (fun j e => by cases e)
  have h5 := h.call hb
  exact ⟨h5.bel, h5.b, (fun v e => by cases e; exact h2), h5.q⟩
theorem Mk.box (h : Mk bs fs W0 w vB vO none) : ∃ y, y = w.alloc (.cells #[.int .i64 0, .slice none 0 0, .slice none 0 0] 52) ∧ Mk bs fs W0 y vB vO (some w.heap.size) := by
  have hb : Below w.heap.size w (w.alloc (.cells #[.int .i64 0, .slice none 0 0, .slice none 0 0] 52)) := (Below.refl _ _).alloc (Nat.le_refl _) _
  have h5 := h.call hb
  exact ⟨_, rfl, h5.bel, h5.b, h5.o, fun g e => by cases e; exact ⟨h.bel.size, BoxD.new _ _ _ _⟩⟩
end

/-- A copy that is made: a struct in block q, its bytes, its marks, all of them new since the block base. -/
structure Cp (w0 : World) (base : Nat) (w : World) (q : Nat) (B : Int) (da sa : Value) (bs : List Nat) (fs : List Bool) : Prop where
  bel : Below base w0 w
  box : BoxD w q B da sa
  by_ : OwB w base da bs
  sf : OwO w base sa fs
  low : base ≤ q
  bas : base ≤ w.heap.size
theorem Mk.fin {bs : List Nat} {fs : List Bool} {W0 w : World} {da sa : Value} {q : Nat} (h : Mk bs fs W0 w (some da) (some sa) (some q)) (B : Int) :
    Cp W0 W0.heap.size (((w.setCell ⟨q, 0, none⟩ (.int .i64 B)).setCell ⟨q, 1, none⟩ da).setCell ⟨q, 2, none⟩ sa) q B da sa bs fs := by
  obtain ⟨hq, hbx⟩ := h.q q rfl
  have hk : ∀ j, j ≠ q → (((w.setCell ⟨q, 0, none⟩ (.int .i64 B)).setCell ⟨q, 1, none⟩ da).setCell ⟨q, 2, none⟩ sa).heap[j]? = w.heap[j]? := fun j hj =>
    (Below.heap_setCell _ _ _ _ hj).trans ((Below.heap_setCell _ _ _ _ hj).trans (Below.heap_setCell _ _ _ _ hj))
  refine ⟨((h.bel.setCell hq _).setCell hq _).setCell hq _, hbx.all B da sa, (h.b _ rfl).keep fun j hj => hk j fun e => ?_, (h.o _ rfl).keep fun j hj => hk j fun e => ?_, hq, by simpa using h.bel.size⟩
  · subst e; exact (h.b _ rfl).not_box hbx hj
  · subst e; exact (h.o _ rfl).not_box hbx hj

/-- An append whose run is known, for the walk. -/
theorem wpList_append_run {P : Program} {w : World} {ops : Array Oper} {rest : List Oper} {o : Oper} {a : Act} {Q : Exit → Act → World → Prop} (hgd : o.guard = none) (s x : Operand) (t : TypeId)
    (ho : o.op = .call { callee := .builtin .append, args := #[s, x], argTypes := #[t, t] }) (v y v' : Value) (w' : World) (hs : a.eval s = v) (hx : a.eval x = y)
    (hrun : (Builtin.append_ #[t, t] o.type #[v, y]).run P w = .ok v' w') (h : wpList P ops Q rest (a.put o.dst v') w') : wpList P ops Q (o :: rest) a w := by
  refine wpList_plain hgd fun K hK => ?_
  exact wp_append_run s x t ho v y v' w' hs hx hrun (hK _ _ h)

section
variable {w0 w : World} {base q : Nat} {B : Int} {da sa : Value} {bs : List Nat} {fs : List Bool}
/-- One byte laid behind a copy's bytes. -/
theorem Cp.appB (h : Cp w0 base w q B da sa bs fs) (ty : TypeId) (z : Nat) (hl : bs.length + 1 ≤ 211106232532800) {n : Nat} (hn : bs.length = n) :
    ∃ a' c' w', (Builtin.append_ #[23, 23] ty #[da, .slice (some ⟨w.heap.size, 0, none⟩) 1 1]).run Try.prog (w.alloc (.cells #[.int .u8 (z : Int)] 5)) = .ok (.slice a' (n + 1) c') w' ∧
      BoxD w' q B da sa ∧ Cp w0 base (w'.setCell ⟨q, 1, none⟩ (.slice a' (n + 1) c')) q B (.slice a' (n + 1) c') sa (bs ++ [z]) fs ∧ Below base w0 w' := by
  subst hn
  have hb : Below w.heap.size w (w.alloc (.cells #[.int .u8 (z : Int)] 5)) := (Below.refl _ _).alloc (Nat.le_refl _) _
  have hd := h.by_.below hb
  have hs := h.sf.below hb
  have hx := h.box.below hb
  obtain ⟨v', w', h1, h2, h3, h4⟩ := run_appendB _ ty base da bs hd (some ⟨w.heap.size, 0, none⟩) 1 [z] (rowB_new w z) (fun e => by cases e) (by simpa using hl) (Nat.le_trans h.bas hb.size)
  obtain ⟨a', c', rfl, _⟩ := h2.row
  have e2 : (bs ++ [z]).length = bs.length + 1 := by simp
  rw [e2] at h1 h2 h4
  have hq : w'.heap[q]? = (w.alloc (.cells #[.int .u8 (z : Int)] 5)).heap[q]? := h3.block q hx.lt (fun e => hd.not_box hx e.symm)
  have hx2 := hx.keep hq
  have hb2 : Below base w0 w' := (h.bel.trans (hb.mono h.bas)).grown h3 (Nat.le_trans h.bas hb.size) (fun j e => (hd.inside j e).1)
  have hk : ∀ j, j ≠ q → (w'.setCell ⟨q, 1, none⟩ (.slice a' (bs.length + 1) c')).heap[j]? = w'.heap[j]? := fun j hj => Below.heap_setCell _ _ _ _ hj
  refine ⟨a', c', w', h1, hx2, ⟨hb2.setCell h.low _, hx2.set1 _, h2.keep fun j hj => hk j fun e => ?_, (hs.keep fun j hj => h3.block j (hs.inside j hj).2 fun e => hs.not_B hd hj e.symm).keep fun j hj => hk j fun e => ?_, h.low, ?_⟩, hb2⟩
  · subst e; exact h2.not_box hx2 hj
  · subst e; exact h.sf.not_box h.box hj
  · have := h3.size; have := h.bas; simp at *; omega
/-- One mark laid behind a copy's marks. -/
theorem Cp.appO (h : Cp w0 base w q B da sa bs fs) (ty : TypeId) (z : Bool) (hl : fs.length + 1 ≤ 211106232532800) {n : Nat} (hn : fs.length = n) :
    ∃ a' c' w', (Builtin.append_ #[50, 50] ty #[sa, .slice (some ⟨w.heap.size, 0, none⟩) 1 1]).run Try.prog (w.alloc (.cells #[.bool z] 4)) = .ok (.slice a' (n + 1) c') w' ∧
      BoxD w' q B da sa ∧ Cp w0 base (w'.setCell ⟨q, 2, none⟩ (.slice a' (n + 1) c')) q B da (.slice a' (n + 1) c') bs (fs ++ [z]) := by
  subst hn
  have hb : Below w.heap.size w (w.alloc (.cells #[.bool z] 4)) := (Below.refl _ _).alloc (Nat.le_refl _) _
  have hd := h.by_.below hb
  have hs := h.sf.below hb
  have hx := h.box.below hb
  obtain ⟨v', w', h1, h2, h3, h4⟩ := run_appendO _ ty base sa fs hs (some ⟨w.heap.size, 0, none⟩) 1 [z] (rowO_new w z) (fun e => by cases e) (by simpa using hl) (Nat.le_trans h.bas hb.size)
  obtain ⟨a', c', rfl, _⟩ := h2.row
  have e2 : (fs ++ [z]).length = fs.length + 1 := by simp
  rw [e2] at h1 h2 h4
  have hq : w'.heap[q]? = (w.alloc (.cells #[.bool z] 4)).heap[q]? := h3.block q hx.lt (fun e => hs.not_box hx e.symm)
  have hx2 := hx.keep hq
  have hb2 : Below base w0 w' := (h.bel.trans (hb.mono h.bas)).grown h3 (Nat.le_trans h.bas hb.size) (fun j e => (hs.inside j e).1)
  have hk : ∀ j, j ≠ q → (w'.setCell ⟨q, 2, none⟩ (.slice a' (fs.length + 1) c')).heap[j]? = w'.heap[j]? := fun j hj => Below.heap_setCell _ _ _ _ hj
  refine ⟨a', c', w', h1, hx2, hb2.setCell h.low _, hx2.set2 _, (hd.keep fun j hj => h3.block j (hd.inside j hj).2 fun e => hs.not_B hd e.symm hj).keep fun j hj => hk j fun e => ?_, h2.keep fun j hj => hk j fun e => ?_, h.low, ?_⟩
  · subst e; exact h.by_.not_box h.box hj
  · subst e; exact h2.not_box hx2 hj
  · have := h3.size; have := h.bas; simp at *; omega
theorem Cp.drew (h : Cp w0 base w q B da sa bs fs) : Cp w0 base w.drew q B da sa bs fs :=
  ⟨h.bel.drew, h.box, h.by_.below (Below.refl _ _).drew, h.sf.below (Below.refl _ _).drew, h.low, h.bas⟩
end

end Go.Proofs.Ytejaaalgnbnalaa
