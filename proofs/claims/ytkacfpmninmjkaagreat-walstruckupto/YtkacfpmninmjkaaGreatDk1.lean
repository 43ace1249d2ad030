/- A disk in memory: two cells, a row of five cells an area, the areas; what a call may change. The disk's calls that only tell: part, Areas, Done, Bounds, Read. The operations of a disk. The operations of a disk, Cut and Trim. The operations of a disk, Cut and Trim refused. The disk's operations, told by what they do to an area. The disk's operations, whole. -/
import Derived.Test.YtkacfpmninmjkaaGreatAr1
import Derived.Test.YtkacfpmninmjkaaGreatReg2
namespace Go.Proofs.YtkacfpmninmjkaaGreat
open Go.RowKit

/-- The blocks of F and those that were made since. -/
def upto (F : Nat → Prop) (w w' : World) (j : Nat) : Prop := F j ∨ (w.heap.size ≤ j ∧ j < w'.heap.size)

/-- An area of a disk: its base, its bytes, how many of them are safe; its fate; its count. -/
structure Pt where
  B : Nat
  bs : List Nat
  k : Nat
  fd : Int
  fk : Int
  ft : Nat
  c : Nat

/-- One of them otherwise. -/
def upd (s : Nat → Pt) (i : Nat) (x : Pt) (j : Nat) : Pt := if j = i then x else s j
theorem upd_at (s : Nat → Pt) (i : Nat) (x : Pt) : upd s i x i = x := if_pos rfl
theorem upd_ne (s : Nat → Pt) (i : Nat) (x : Pt) {j : Nat} (h : j ≠ i) : upd s i x j = s j := if_neg h
theorem upd_upd (s : Nat → Pt) (i : Nat) (x y : Pt) : upd (upd s i x) i y = upd s i y := by
  funext j; unfold upd; split <;> rfl
theorem upd_self (s : Nat → Pt) (i : Nat) : upd s i (s i) = s := by
  funext j; unfold upd; split
  · next h => rw [h]
  · rfl

/-- The five cells of an area of a disk. -/
structure Five (C : Array Value) (i q : Nat) (x : Pt) : Prop where
  c0 : C[i * 5]? = some (.pointer (some ⟨q, 0, none⟩))
  c1 : C[i * 5 + 1]? = some (.int .i64 x.fd)
  c2 : C[i * 5 + 2]? = some (.int .i64 x.fk)
  c3 : C[i * 5 + 3]? = some (.int .u8 (x.ft : Int))
  c4 : C[i * 5 + 4]? = some (.int .i64 (x.c : Int))

/-- In block p lies a disk with n areas, which are as s says; g: the block of its parts, C their cells; q, v: the areas' blocks and slices; F: the blocks that are the disk's. -/
structure Dk (w : World) (F : Nat → Prop) (p : Nat) (am : Bool) (n : Nat) (s : Nat → Pt) (g : Nat) (C : Array Value) (q : Nat → Nat) (v : Nat → Value) : Prop where
  blk : w.heap[p]? = some (.cells #[.bool am, .slice (some ⟨g, 0, none⟩) n n] 88 (0, 0))
  row : w.heap[g]? = some (.cells C 86 (0, 0))
  few : 1 ≤ n ∧ n ≤ 16
  five : ∀ i, i < n → Five C i (q i) (s i)
  ar : ∀ i, i < n → Ar w (q i) 0 (v i) (s i).B (s i).bs (s i).k
  le : ∀ i, i < n → (s i).k ≤ (s i).bs.length
  ft : ∀ i, i < n → (s i).ft < 256
  pg : p ≠ g
  sep : ∀ i, i < n → ¬ Ft (q i) (v i) p ∧ ¬ Ft (q i) (v i) g
  apart : ∀ i j, i < n → j < n → i ≠ j → ∀ b, Ft (q i) (v i) b → ¬ Ft (q j) (v j) b
  foot : ∀ b, (b = p ∨ b = g ∨ ∃ i, i < n ∧ Ft (q i) (v i) b) → F b
  lt : ∀ b, F b → b < w.heap.size

section
variable {w w' : World} {F G : Nat → Prop} {p : Nat} {am : Bool} {n : Nat} {s : Nat → Pt} {g : Nat} {C : Array Value} {q : Nat → Nat} {v : Nat → Value}
theorem Dk.plt (h : Dk w F p am n s g C q v) : p < w.heap.size := (Array.getElem?_eq_some_iff.1 h.blk).1
theorem Dk.glt (h : Dk w F p am n s g C q v) : g < w.heap.size := (Array.getElem?_eq_some_iff.1 h.row).1
theorem Dk.cells (h : Dk w F p am n s g C q v) : w.cell? ⟨p, 0, none⟩ = some (.bool am) ∧ w.cell? ⟨p, 1, none⟩ = some (.slice (some ⟨g, 0, none⟩) n n) ∧ w.frozen? ⟨p, 0, none⟩ = false :=
  ⟨cell_of_row _ _ _ _ _ _ h.blk, cell_of_row _ _ _ _ _ _ h.blk, frozen_of_row _ _ _ _ _ h.blk⟩
theorem Dk.at_ (h : Dk w F p am n s g C q v) {i : Nat} (hi : i < n) : w.cell? ⟨g, i * 5, none⟩ = some (.pointer (some ⟨q i, 0, none⟩)) ∧ w.cell? ⟨g, i * 5 + 1, none⟩ = some (.int .i64 (s i).fd) ∧ w.cell? ⟨g, i * 5 + 2, none⟩ = some (.int .i64 (s i).fk) ∧
    w.cell? ⟨g, i * 5 + 3, none⟩ = some (.int .u8 ((s i).ft : Int)) ∧ w.cell? ⟨g, i * 5 + 4, none⟩ = some (.int .i64 ((s i).c : Int)) ∧ ∀ o, w.frozen? ⟨g, o, none⟩ = false := by
  obtain ⟨c0, c1, c2, c3, c4⟩ := h.five i hi
  exact ⟨(cell_of_row _ _ _ _ _ _ h.row).trans c0, (cell_of_row _ _ _ _ _ _ h.row).trans c1, (cell_of_row _ _ _ _ _ _ h.row).trans c2, (cell_of_row _ _ _ _ _ _ h.row).trans c3, (cell_of_row _ _ _ _ _ _ h.row).trans c4, fun o => frozen_of_row _ _ _ _ _ h.row⟩
theorem Dk.keep (h : Dk w F p am n s g C q v) (hs : w.heap.size ≤ w'.heap.size) (hk : ∀ b, F b → w'.heap[b]? = w.heap[b]?) : Dk w' F p am n s g C q v :=
  ⟨(hk p (h.foot p (.inl rfl))).trans h.blk, (hk g (h.foot g (.inr (.inl rfl)))).trans h.row, h.few, h.five,
    fun i hi => (h.ar i hi).keep (hk _ (h.foot _ (.inr (.inr ⟨i, hi, .inl rfl⟩)))) (fun j hj => hk j (h.foot j (.inr (.inr ⟨i, hi, .inr hj⟩)))), h.le, h.ft, h.pg, h.sep, h.apart, h.foot, fun b hb => Nat.lt_of_lt_of_le (h.lt b hb) hs⟩
theorem Dk.below (h : Dk w F p am n s g C q v) (hb : Below w.heap.size w w') : Dk w' F p am n s g C q v := h.keep hb.size fun b hF => hb.block b (h.lt b hF)
theorem Dk.chg (h : Dk w F p am n s g C q v) (hc : Chg G w w') (hd : ∀ b, F b → ¬ G b) : Dk w' F p am n s g C q v := h.keep hc.size fun b hF => hc.block b (h.lt b hF) (hd b hF)
theorem Dk.drew (h : Dk w F p am n s g C q v) : Dk w.drew F p am n s g C q v := h.keep (Nat.le_refl _) fun _ _ => rfl
theorem Dk.mono (h : Dk w F p am n s g C q v) (hF : ∀ b, F b → G b) (hG : ∀ b, G b → b < w.heap.size) : Dk w G p am n s g C q v :=
  ⟨h.blk, h.row, h.few, h.five, h.ar, h.le, h.ft, h.pg, h.sep, h.apart, fun b hb => hF b (h.foot b hb), hG⟩
/-- A call of the area i. -/
theorem Dk.moved (h : Dk w F p am n s g C q v) {i : Nat} (hi : i < n) {B' : Nat} {bs' : List Nat} {k' : Nat} (hm : Moved w (q i) 0 (v i) B' bs' k' w') (hk : k' ≤ bs'.length) :
    (∃ v', Dk w' (upto F w w') p am n (upd s i { s i with B := B', bs := bs', k := k' }) g C q v') ∧ Chg F w w' := by
  obtain ⟨⟨u, h1, h2⟩, hc, _⟩ := hm
  have hF : ∀ b, Ft (q i) (v i) b → F b := fun b hb => h.foot b (.inr (.inr ⟨i, hi, hb⟩))
  have hcF : Chg F w w' := hc.mono fun b _ hb => hF b hb
  have hft : ∀ b, Ft (q i) u b → Ft (q i) (v i) b ∨ (w.heap.size ≤ b ∧ b < w'.heap.size) := fun b hb => by
    have hin := h1.inside b hb
    rcases hb with rfl | hb
    · exact .inl (.inl rfl)
    · rcases h2 with h2 | h2
      · exact .inl (.inr (h2 ▸ hb))
      · exact .inr ⟨h2 b hb, hin⟩
  refine ⟨⟨fun j => if j = i then u else v j, (hc.block p h.plt (h.sep i hi).1).trans h.blk, (hc.block g h.glt (h.sep i hi).2).trans h.row, h.few, ?_, ?_, ?_, ?_, h.pg, ?_, ?_, ?_, ?_⟩, hcF⟩
  · intro j hj
    by_cases e : j = i
    · subst e
      rw [upd_at]
      obtain ⟨c0, c1, c2, c3, c4⟩ := h.five j hj
      exact ⟨c0, c1, c2, c3, c4⟩
    · rw [upd_ne _ _ _ e]; exact h.five j hj
  · intro j hj
    by_cases e : j = i
    · subst e
      rw [upd_at, if_pos rfl]; exact h1
    · rw [upd_ne _ _ _ e, if_neg e]
      exact (h.ar j hj).chg hc (fun b hb => h.apart j i hj hi e b hb)
  · intro j hj
    by_cases e : j = i
    · subst e; rw [upd_at]; exact hk
    · rw [upd_ne _ _ _ e]; exact h.le j hj
  · intro j hj
    by_cases e : j = i
    · subst e; rw [upd_at]; exact h.ft j hj
    · rw [upd_ne _ _ _ e]; exact h.ft j hj
  · intro j hj
    by_cases e : j = i
    · subst e
      rw [if_pos rfl]
      refine ⟨fun h4 => ?_, fun h4 => ?_⟩
      · rcases hft _ h4 with h5 | h5
        · exact (h.sep j hj).1 h5
        · have := h.plt; omega
      · rcases hft _ h4 with h5 | h5
        · exact (h.sep j hj).2 h5
        · have := h.glt; omega
    · rw [if_neg e]; exact h.sep j hj
  · intro a b ha hb hab c hc1 hc2
    have hin : ∀ j, j < n → Ft (q j) (v j) c → c < w.heap.size := fun j hj hx => (h.ar j hj).inside c hx
    by_cases ea : a = i
    · have eb : b ≠ i := fun e => hab (by omega)
      rw [if_pos ea] at hc1
      rw [if_neg eb] at hc2
      subst ea
      rcases hft c hc1 with h5 | h5
      · exact h.apart a b ha hb hab c h5 hc2
      · have := hin b hb hc2; omega
    · rw [if_neg ea] at hc1
      by_cases eb : b = i
      · rw [if_pos eb] at hc2
        subst eb
        rcases hft c hc2 with h5 | h5
        · exact h.apart a b ha hb hab c hc1 h5
        · have := hin a ha hc1; omega
      · rw [if_neg eb] at hc2
        exact h.apart a b ha hb hab c hc1 hc2
  · intro b hb
    rcases hb with rfl | rfl | ⟨j, hj, hb⟩
    · exact .inl (h.foot _ (.inl rfl))
    · exact .inl (h.foot _ (.inr (.inl rfl)))
    · by_cases e : j = i
      · rw [if_pos e] at hb
        subst e
        rcases hft b hb with h5 | h5
        · exact .inl (hF b h5)
        · exact .inr h5
      · rw [if_neg e] at hb
        exact .inl (h.foot b (.inr (.inr ⟨j, hj, hb⟩)))
  · intro b hb
    rcases hb with hb | hb
    · have := h.lt b hb; have := hcF.size; omega
    · exact hb.2
/-- Other cells in the row of parts: the pointers stay. -/
theorem Dk.cells_to (h : Dk w F p am n s g C q v) {C' : Array Value} {s' : Nat → Pt} (hs : w.heap.size ≤ w'.heap.size) (hg : w'.heap[g]? = some (.cells C' 86 (0, 0))) (hk : ∀ b, F b → b ≠ g → w'.heap[b]? = w.heap[b]?)
    (h5 : ∀ i, i < n → Five C' i (q i) (s' i)) (hsm : ∀ i, i < n → (s' i).B = (s i).B ∧ (s' i).bs = (s i).bs ∧ (s' i).k = (s i).k ∧ (s' i).ft < 256) : Dk w' F p am n s' g C' q v := by
  have hne : ∀ i, i < n → ∀ b, Ft (q i) (v i) b → b ≠ g := fun i hi b hb e => (h.sep i hi).2 (e ▸ hb)
  refine ⟨(hk p (h.foot p (.inl rfl)) h.pg).trans h.blk, hg, h.few, h5, fun i hi => ?_, fun i hi => ?_, fun i hi => (hsm i hi).2.2.2, h.pg, h.sep, h.apart, h.foot, fun b hb => Nat.lt_of_lt_of_le (h.lt b hb) hs⟩
  · obtain ⟨e1, e2, e3, _⟩ := hsm i hi
    rw [e1, e2, e3]
    exact (h.ar i hi).keep (hk _ (h.foot _ (.inr (.inr ⟨i, hi, .inl rfl⟩))) (hne i hi _ (.inl rfl))) (fun j hj => hk j (h.foot j (.inr (.inr ⟨i, hi, .inr hj⟩))) (hne i hi _ (.inr hj)))
  · obtain ⟨e1, e2, e3, _⟩ := hsm i hi
    rw [e2, e3]
    exact h.le i hi
theorem Five.set_ne {i j q : Nat} {x : Pt} {o : Nat} {u : Value} (h : Five C j q x) (hne : o < j * 5 ∨ j * 5 + 5 ≤ o) (_hi : i = i) : Five (C.setIfInBounds o u) j q x := by
  obtain ⟨c0, c1, c2, c3, c4⟩ := h
  refine ⟨?_, ?_, ?_, ?_, ?_⟩ <;> (rw [Array.getElem?_setIfInBounds_ne (by omega)]; assumption)
/-- The count of the area i, one more. -/
theorem Dk.count (h : Dk w F p am n s g C q v) {i : Nat} (hi : i < n) (c' : Nat) : ∃ C', Dk (w.setCell ⟨g, i * 5 + 4, none⟩ (.int .i64 (c' : Int))) F p am n (upd s i { s i with c := c' }) g C' q v := by
  refine ⟨_, h.cells_to (by simp) (heap_setCell_same w g (i * 5 + 4) _ _ _ h.row) (fun b _ hb => Below.heap_setCell _ _ _ _ hb) (fun j hj => ?_) (fun j hj => ?_)⟩
  · by_cases e : j = i
    · subst e
      rw [upd_at]
      obtain ⟨c0, c1, c2, c3, c4⟩ := h.five j hj
      have hl := (Array.getElem?_eq_some_iff.1 c4).1
      refine ⟨?_, ?_, ?_, ?_, ?_⟩
      · rw [Array.getElem?_setIfInBounds_ne (by omega)]; exact c0
      · rw [Array.getElem?_setIfInBounds_ne (by omega)]; exact c1
      · rw [Array.getElem?_setIfInBounds_ne (by omega)]; exact c2
      · rw [Array.getElem?_setIfInBounds_ne (by omega)]; exact c3
      · rw [Array.getElem?_setIfInBounds_self_of_lt hl]
    · rw [upd_ne _ _ _ e]
      exact (h.five j hj).set_ne (i := i) (by omega) rfl
  · by_cases e : j = i
    · subst e; rw [upd_at]; exact ⟨rfl, rfl, rfl, h.ft j hj⟩
    · rw [upd_ne _ _ _ e]; exact ⟨rfl, rfl, rfl, h.ft j hj⟩
/-- Armed, or not. -/
theorem Dk.arms (h : Dk w F p am n s g C q v) (b : Bool) : Dk (w.setCell ⟨p, 0, none⟩ (.bool b)) F p b n s g C q v := by
  have hne : ∀ i, i < n → ∀ b, Ft (q i) (v i) b → b ≠ p := fun i hi b hb e => (h.sep i hi).1 (e ▸ hb)
  refine ⟨heap_setCell_same w p 0 _ _ _ h.blk, (Below.heap_setCell _ _ _ _ (fun e => h.pg e.symm)).trans h.row, h.few, h.five, fun i hi => ?_, h.le, h.ft, h.pg, h.sep, h.apart, h.foot, fun c hc => by simpa using h.lt c hc⟩
  exact (h.ar i hi).keep (Below.heap_setCell _ _ _ _ (hne i hi _ (.inl rfl))) (fun j hj => Below.heap_setCell _ _ _ _ (hne i hi _ (.inr hj)))
end

/-- A disk, whatever its blocks. -/
def Dsk (w : World) (F : Nat → Prop) (p : Nat) (am : Bool) (n : Nat) (s : Nat → Pt) : Prop := ∃ g C q v, Dk w F p am n s g C q v
section
variable {w w' : World} {F G : Nat → Prop} {p : Nat} {am : Bool} {n : Nat} {s : Nat → Pt}
theorem Dsk.below (h : Dsk w F p am n s) (hb : Below w.heap.size w w') : Dsk w' F p am n s := by
  obtain ⟨g, C, q, v, h⟩ := h
  exact ⟨g, C, q, v, h.below hb⟩
theorem Dsk.chg (h : Dsk w F p am n s) (hc : Chg G w w') (hd : ∀ b, F b → ¬ G b) : Dsk w' F p am n s := by
  obtain ⟨g, C, q, v, h⟩ := h
  exact ⟨g, C, q, v, h.chg hc hd⟩
theorem Dsk.mono (h : Dsk w F p am n s) (hF : ∀ b, F b → G b) (hG : ∀ b, G b → b < w.heap.size) : Dsk w G p am n s := by
  obtain ⟨g, C, q, v, h⟩ := h
  exact ⟨g, C, q, v, h.mono hF hG⟩
theorem Dsk.lt (h : Dsk w F p am n s) : ∀ b, F b → b < w.heap.size := by
  obtain ⟨g, C, q, v, h⟩ := h
  exact h.lt
theorem Dsk.few (h : Dsk w F p am n s) : 1 ≤ n ∧ n ≤ 16 := by
  obtain ⟨g, C, q, v, h⟩ := h
  exact h.few
theorem Dsk.le (h : Dsk w F p am n s) : ∀ i, i < n → (s i).k ≤ (s i).bs.length := by
  obtain ⟨g, C, q, v, h⟩ := h
  exact h.le
theorem Dsk.ft (h : Dsk w F p am n s) : ∀ i, i < n → (s i).ft < 256 := by
  obtain ⟨g, C, q, v, h⟩ := h
  exact h.ft
theorem Dsk.room (h : Dsk w F p am n s) : ∀ i, i < n → (s i).bs.length ≤ 211106232532800 ∧ (s i).B + (s i).bs.length ≤ 9223372036854775807 ∧ All8 (s i).bs := by
  obtain ⟨g, C, q, v, h⟩ := h
  exact fun i hi => ⟨(h.ar i hi).len, (h.ar i hi).room, (h.ar i hi).all⟩
theorem Dsk.own (h : Dsk w F p am n s) : F p := by
  obtain ⟨g, C, q, v, h⟩ := h
  exact h.foot p (.inl rfl)
end

/-- What a call leaves of a disk. -/
structure Went (w : World) (F : Nat → Prop) (p : Nat) (am : Bool) (n : Nat) (s : Nat → Pt) (w' : World) : Prop where
  dsk : Dsk w' (upto F w w') p am n s
  chg : Chg F w w'
theorem Went.of_below {w w' : World} {F : Nat → Prop} {p : Nat} {am : Bool} {n : Nat} {s : Nat → Pt} (h : Dsk w F p am n s) (hb : Below w.heap.size w w') : Went w F p am n s w' :=
  ⟨(h.below hb).mono (fun _ hj => .inl hj) (fun j hj => by
    rcases hj with hj | hj
    · have := h.lt j hj; have := hb.size; omega
    · exact hj.2), Chg.new hb⟩
theorem upto_mono {F : Nat → Prop} {w w1 w2 : World} (h1 : w.heap.size ≤ w1.heap.size) : ∀ j, upto (upto F w w1) w1 w2 j → w1.heap.size ≤ w2.heap.size → upto F w w2 j := fun j hj h2 => by
  rcases hj with (hj | hj) | hj
  · exact .inl hj
  · exact .inr (by omega)
  · exact .inr (by omega)
theorem Went.trans {w w1 w2 : World} {F : Nat → Prop} {p : Nat} {am am' : Bool} {n : Nat} {s s' : Nat → Pt} (h : Went w F p am n s w1) (k : Went w1 (upto F w w1) p am' n s' w2) : Went w F p am' n s' w2 := by
  have h1 := h.chg.size
  have h2 := k.chg.size
  refine ⟨k.dsk.mono (fun j hj => upto_mono h1 j hj h2) (fun j hj => ?_), h.chg.trans k.chg (fun j hj hu => ?_)⟩
  · rcases hj with hj | hj
    · exact Nat.lt_of_lt_of_le (Nat.lt_of_lt_of_le (k.dsk.lt j (.inl (.inl hj))) (Nat.le_refl _)) (Nat.le_refl _)
    · exact hj.2
  · rcases hu with hu | hu
    · exact hu
    · omega
theorem upto_far {F G : Nat → Prop} {w w' : World} (hd : ∀ j, F j → ¬ G j) (hG : ∀ j, G j → j < w.heap.size) : ∀ j, upto F w w' j → ¬ G j := fun j hj h4 => by
  rcases hj with hj | hj
  · exact hd j hj h4
  · have := hG j h4; omega

end Go.Proofs.YtkacfpmninmjkaaGreat

namespace Go.Proofs.YtkacfpmninmjkaaGreat
open Go.RowKit

section
variable {w : World} {F : Nat → Prop} {p : Nat} {am : Bool} {n : Nat} {s : Nat → Pt} {g : Nat} {C : Array Value} {q : Nat → Nat} {v : Nat → Value}

set_option maxRecDepth 100000 in
set_option maxHeartbeats 400000 in
theorem part_nil (I : Int) (w : World) : Calls Tryz.prog 49 #[.pointer none, .int .i64 I] w fun e w' => e = .returned (.tuple #[.pointer none, .int .i64 1]) ∧ w' = w := by
  go_enter Tryz.func49, Tryz.ntmps49
  go_wp2
  go_ret2
  exact ⟨rfl, rfl⟩

set_option maxRecDepth 100000 in
set_option maxHeartbeats 400000 in
theorem part_no (h : Dk w F p am n s g C q v) (I : Int) (hI : I < 0 ∨ (n : Int) ≤ I) : Calls Tryz.prog 49 #[.pointer (some ⟨p, 0, none⟩), .int .i64 I] w fun e w' => e = .returned (.tuple #[.pointer none, .int .i64 81]) ∧ w' = w := by
  obtain ⟨c0, c1, _⟩ := h.cells
  by_cases h1 : I < 0
  · go_enter Tryz.func49, Tryz.ntmps49
    go_wp2
    go_ret2
    exact ⟨rfl, rfl⟩
  · have h2 : ¬ I < (n : Int) := by omega
    clear hI
    go_enter Tryz.func49, Tryz.ntmps49
    go_wp2
    go_ret2
    exact ⟨rfl, rfl⟩

set_option maxRecDepth 100000 in
set_option maxHeartbeats 400000 in
theorem part_ok (h : Dk w F p am n s g C q v) (i : Nat) (hi : i < n) : Calls Tryz.prog 49 #[.pointer (some ⟨p, 0, none⟩), .int .i64 (i : Int)] w fun e w' => e = .returned (.tuple #[.pointer (some ⟨g, i * 5, none⟩), .int .i64 0]) ∧ w' = w := by
  obtain ⟨c0, c1, _⟩ := h.cells
  go_enter Tryz.func49, Tryz.ntmps49
  go_wp2
  go_ret2
  exact ⟨rfl, rfl⟩

set_option maxRecDepth 100000 in
set_option maxHeartbeats 400000 in
theorem done_ok (h : Dsk w F p am n s) (i : Nat) (hi : i < n) : Calls Tryz.prog 18 #[.pointer (some ⟨p, 0, none⟩), .int .i64 (i : Int)] w fun e w' => e = .returned (.int .i64 ((s i).c : Int)) ∧ w' = w := by
  obtain ⟨g, C, q, v, h⟩ := h
  have hp := part_ok h i hi
  obtain ⟨c0, c1, c2, c3, c4, _⟩ := h.at_ hi
  go_enter Tryz.func18, Tryz.ntmps18
  go_wp2_with fail
  refine hp.mono ?_
  rintro e w1 ⟨rfl, hw⟩
  have hw2 := hw.symm
  subst hw2
  clear hw hp
  go_wp2_with fail
  go_ret
  exact ⟨rfl, rfl⟩

set_option maxRecDepth 100000 in
set_option maxHeartbeats 400000 in
theorem bounds_ok (h : Dsk w F p am n s) (i : Nat) (hi : i < n) : Calls Tryz.prog 34 #[.pointer (some ⟨p, 0, none⟩), .int .i64 (i : Int)] w fun e w' =>
    e = .returned (.tuple #[.int .i64 ((s i).B : Int), .int .i64 (((s i).B + (s i).k : Nat) : Int), .int .i64 (((s i).B + (s i).bs.length : Nat) : Int), .int .i64 0]) ∧ Below w.heap.size w w' := by
  obtain ⟨g, C, q, v, h⟩ := h
  have hp := part_ok h i hi
  have hb := bounds_any w (h.ar i hi) (h.le i hi)
  obtain ⟨c0, c1, c2, c3, c4, _⟩ := h.at_ hi
  go_enter Tryz.func34, Tryz.ntmps34
  go_wp2_with fail
  refine hp.mono ?_
  rintro e w1 ⟨rfl, hw⟩
  have hw2 := hw.symm
  subst hw2
  clear hw hp
  go_wp2_with fail
  refine hb.mono ?_
  rintro e w2 ⟨rfl, hb2⟩
  clear hb
  go_wp2_with fail
  exact bodyPost_ret (v := .tuple #[.int .i64 ((s i).B : Int), .int .i64 (((s i).B + (s i).k : Nat) : Int), .int .i64 (((s i).B + (s i).bs.length : Nat) : Int), .int .i64 0]) (by simp [results, Tryz.results34, go_sem]) rfl ⟨rfl, hb2⟩

set_option maxRecDepth 100000 in
set_option maxHeartbeats 400000 in
theorem readD_no (h : Dsk w F p am n s) (i : Nat) (hi : i < n) (E N : Int) (hEb : E ≤ 9223372036854775807) (hE : N < 0 ∨ E < ((s i).B : Int) ∨ ((s i).B : Int) + ((s i).bs.length : Int) < E + N) :
    Calls Tryz.prog 47 #[.pointer (some ⟨p, 0, none⟩), .int .i64 (i : Int), .int .i64 E, .int .i64 N] w fun e w' => e = .returned (.tuple #[.slice none 0 0, .int .i64 70]) ∧ Below w.heap.size w w' := by
  obtain ⟨g, C, q, v, h⟩ := h
  have hp := part_ok h i hi
  have hb := read_no w (h.ar i hi) E N hEb hE
  obtain ⟨c0, c1, c2, c3, c4, _⟩ := h.at_ hi
  clear hE hEb
  go_enter Tryz.func47, Tryz.ntmps47
  go_wp2_with fail
  refine hp.mono ?_
  rintro e w1 ⟨rfl, hw⟩
  have hw2 := hw.symm
  subst hw2
  clear hw hp
  go_wp2_with fail
  refine hb.mono ?_
  rintro e w2 ⟨rfl, hb2⟩
  clear hb
  go_wp2_with fail
  go_ret2
  exact ⟨rfl, hb2⟩

set_option maxRecDepth 100000 in
set_option maxHeartbeats 400000 in
theorem readD_ok (h : Dsk w F p am n s) (i : Nat) (hi : i < n) (j m : Nat) (hjm : j + m ≤ (s i).bs.length) (E : Int) (hE : E = ((s i).B : Int) + (j : Int)) :
    Calls Tryz.prog 47 #[.pointer (some ⟨p, 0, none⟩), .int .i64 (i : Int), .int .i64 E, .int .i64 (m : Int)] w fun e w' => TellsA w (((s i).bs.take (j + m)).drop j) 0 e w' := by
  obtain ⟨g, C, q, v, h⟩ := h
  have hp := part_ok h i hi
  have hb := read_ok w (h.ar i hi) j m hjm E hE
  obtain ⟨Z, hZ⟩ : ∃ Z, Z = ((s i).bs.take (j + m)).drop j := ⟨_, rfl⟩
  rw [← hZ] at hb ⊢
  clear hZ
  obtain ⟨c0, c1, c2, c3, c4, _⟩ := h.at_ hi
  clear hE hjm
  go_enter Tryz.func47, Tryz.ntmps47
  go_wp2_with fail
  refine hp.mono ?_
  rintro e w1 ⟨rfl, hw⟩
  have hw2 := hw.symm
  subst hw2
  clear hw hp
  go_wp2_with fail
  refine hb.mono ?_
  rintro e w2 ⟨⟨r, rfl, hr⟩, hb2⟩
  obtain ⟨a9, c9, e9, _⟩ := hr.row
  subst e9
  clear hb
  go_wp2_with fail
  go_ret2
  exact ⟨⟨_, rfl, hr⟩, hb2⟩

/-! ### there is no such area -/
set_option maxRecDepth 100000 in
set_option maxHeartbeats 400000 in
theorem done_no (pv : Value) (E0 : Int) (hE0 : E0 ≠ 0) (I : Int) (w : World) (hp : Calls Tryz.prog 49 #[pv, .int .i64 I] w fun e w' => e = .returned (.tuple #[.pointer none, .int .i64 E0]) ∧ w' = w) :
    Calls Tryz.prog 18 #[pv, .int .i64 I] w fun e w' => e = .returned (.int .i64 0) ∧ w' = w := by
  go_enter Tryz.func18, Tryz.ntmps18
  go_wp2_with fail
  refine hp.mono ?_
  rintro e w1 ⟨rfl, hw⟩
  have hw2 := hw.symm
  subst hw2
  clear hw hp
  go_wp2_with fail
  go_ret
  exact ⟨rfl, rfl⟩

set_option maxRecDepth 100000 in
set_option maxHeartbeats 400000 in
theorem bounds_no (pv : Value) (E0 : Int) (hE0 : E0 ≠ 0) (I : Int) (w : World) (hp : Calls Tryz.prog 49 #[pv, .int .i64 I] w fun e w' => e = .returned (.tuple #[.pointer none, .int .i64 E0]) ∧ w' = w) :
    Calls Tryz.prog 34 #[pv, .int .i64 I] w fun e w' => e = .returned (.tuple #[.int .i64 0, .int .i64 0, .int .i64 0, .int .i64 E0]) ∧ w' = w := by
  go_enter Tryz.func34, Tryz.ntmps34
  go_wp2_with fail
  refine hp.mono ?_
  rintro e w1 ⟨rfl, hw⟩
  have hw2 := hw.symm
  subst hw2
  clear hw hp
  go_wp2_with fail
  exact bodyPost_ret (v := .tuple #[.int .i64 0, .int .i64 0, .int .i64 0, .int .i64 E0]) (by simp [results, Tryz.results34, go_sem]) rfl ⟨rfl, rfl⟩

set_option maxRecDepth 100000 in
set_option maxHeartbeats 400000 in
theorem readD_none (pv : Value) (E0 : Int) (hE0 : E0 ≠ 0) (I E N : Int) (w : World) (hp : Calls Tryz.prog 49 #[pv, .int .i64 I] w fun e w' => e = .returned (.tuple #[.pointer none, .int .i64 E0]) ∧ w' = w) :
    Calls Tryz.prog 47 #[pv, .int .i64 I, .int .i64 E, .int .i64 N] w fun e w' => e = .returned (.tuple #[.slice none 0 0, .int .i64 E0]) ∧ w' = w := by
  go_enter Tryz.func47, Tryz.ntmps47
  go_wp2_with fail
  refine hp.mono ?_
  rintro e w1 ⟨rfl, hw⟩
  have hw2 := hw.symm
  subst hw2
  clear hw hp
  go_wp2_with fail
  go_ret2
  exact ⟨rfl, rfl⟩
end




















end Go.Proofs.YtkacfpmninmjkaaGreat

namespace Go.Proofs.YtkacfpmninmjkaaGreat
open Go.RowKit

section
variable {w : World} {F : Nat → Prop} {p : Nat} {am : Bool} {n : Nat} {s : Nat → Pt} {g : Nat} {C : Array Value} {q : Nat → Nat} {v : Nat → Value}

/-- Is the power gone for the area i? -/
def down (am : Bool) (x : Pt) : Bool := am && decide (x.fd ≤ (x.c : Int))

set_option maxRecDepth 100000 in
set_option maxHeartbeats 400000 in
theorem operate_none (pv fv : Value) (E0 : Int) (hE0 : E0 ≠ 0) (I : Int) (w : World) (hp : Calls Tryz.prog 49 #[pv, .int .i64 I] w fun e w' => e = .returned (.tuple #[.pointer none, .int .i64 E0]) ∧ w' = w) :
    Calls Tryz.prog 68 #[pv, .int .i64 I, fv] w fun e w' => e = .returned (.int .i64 E0) ∧ w' = w := by
  go_enter Tryz.func68, Tryz.ntmps68
  go_wp2_with fail
  refine hp.mono ?_
  rintro e w1 ⟨rfl, hw⟩
  have hw2 := hw.symm
  subst hw2
  clear hw hp
  go_wp2_with fail
  go_ret
  exact ⟨rfl, rfl⟩

set_option maxRecDepth 100000 in
set_option maxHeartbeats 800000 in
theorem operate_down (h : Dk w F p am n s g C q v) (i : Nat) (hi : i < n) (fv : Value) (hd : down am (s i) = true) :
    Calls Tryz.prog 68 #[.pointer (some ⟨p, 0, none⟩), .int .i64 (i : Int), fv] w fun e w' => e = .returned (.int .i64 80) ∧ Below w.heap.size w w' := by
  have hp := part_ok h i hi
  obtain ⟨c0, c1, c2, c3, c4, _⟩ := h.at_ hi
  obtain ⟨d0, d1, _⟩ := h.cells
  have hplt := h.plt
  have hglt := h.glt
  have ham : am = true := by unfold down at hd; simp at hd; exact hd.1
  have hc : (s i).fd ≤ ((s i).c : Int) := by unfold down at hd; simp at hd; exact hd.2
  subst ham
  clear hd
  obtain ⟨fd, hfd⟩ : ∃ x, x = (s i).fd := ⟨_, rfl⟩
  obtain ⟨cc, hcc⟩ : ∃ x : Int, x = ((s i).c : Int) := ⟨_, rfl⟩
  rw [← hfd] at c1 hc
  rw [← hcc] at c4 hc
  clear hfd hcc
  have hH := hide_it h
  clear h
  go_enter Tryz.func68, Tryz.ntmps68
  go_wp2_with fail
  refine hp.mono ?_
  rintro e w1 ⟨rfl, hw⟩
  have hw2 := hw.symm
  subst hw2
  clear hw hp
  go_wp2_with fail
  refine wp_region_held_drew (S := (fun w' => Below w.heap.size w w')) (by kernel_rfl) ?_ (fun hHeld => ?_)
  · exact (Below.refl _ _).drew
  refine take_on (i := 0) (v := ?_) rfl rfl (by kernel_rfl) (by kernel_rfl) (by kernel_rfl) (fun _ _ _ h => h) rfl ?_ hHeld ?_
  rotate_left
  · (intro wq hSq; have q0 := (hSq.cell (p := ⟨p, 0, none⟩) hplt).trans d0; have q1 := (hSq.cell (p := ⟨g, i * 5 + 1, none⟩) hglt).trans c1; have q4 := (hSq.cell (p := ⟨g, i * 5 + 4, none⟩) hglt).trans c4; go_simp <;> first | with_reducible rfl | rfl)
  simp only [Act.put, List.setIfInBounds_toArray, List.set_cons_zero, List.set_cons_succ]
  refine take_on (i := 1) (v := ?_) rfl rfl (by kernel_rfl) (by kernel_rfl) (by kernel_rfl) (fun _ _ _ h => h) rfl ?_ hHeld ?_
  rotate_left
  · (intro wq hSq; have q0 := (hSq.cell (p := ⟨p, 0, none⟩) hplt).trans d0; have q1 := (hSq.cell (p := ⟨g, i * 5 + 1, none⟩) hglt).trans c1; have q4 := (hSq.cell (p := ⟨g, i * 5 + 4, none⟩) hglt).trans c4; go_simp <;> first | with_reducible rfl | rfl)
  simp only [Act.put, List.setIfInBounds_toArray, List.set_cons_zero, List.set_cons_succ]
  refine take_on (i := 2) (v := ?_) rfl rfl (by kernel_rfl) (by kernel_rfl) (by kernel_rfl) (fun _ _ _ h => h) rfl ?_ hHeld ?_
  rotate_left
  · (intro wq hSq; have q0 := (hSq.cell (p := ⟨p, 0, none⟩) hplt).trans d0; have q1 := (hSq.cell (p := ⟨g, i * 5 + 1, none⟩) hglt).trans c1; have q4 := (hSq.cell (p := ⟨g, i * 5 + 4, none⟩) hglt).trans c4; go_simp <;> first | with_reducible rfl | rfl)
  simp only [Act.put, List.setIfInBounds_toArray, List.set_cons_zero, List.set_cons_succ]
  refine take_on (i := 3) (v := ?_) rfl rfl (by kernel_rfl) (by kernel_rfl) (by kernel_rfl) (fun _ _ _ h => h) rfl ?_ hHeld ?_
  rotate_left
  · (intro wq hSq; have q0 := (hSq.cell (p := ⟨p, 0, none⟩) hplt).trans d0; have q1 := (hSq.cell (p := ⟨g, i * 5 + 1, none⟩) hglt).trans c1; have q4 := (hSq.cell (p := ⟨g, i * 5 + 4, none⟩) hglt).trans c4; go_simp <;> first | with_reducible rfl | rfl)
  simp only [Act.put, List.setIfInBounds_toArray, List.set_cons_zero, List.set_cons_succ]
  refine take_on (i := 4) (v := ?_) rfl rfl (by kernel_rfl) (by kernel_rfl) (by kernel_rfl) (fun _ _ _ h => h) rfl ?_ hHeld ?_
  rotate_left
  · (intro wq hSq; have q0 := (hSq.cell (p := ⟨p, 0, none⟩) hplt).trans d0; have q1 := (hSq.cell (p := ⟨g, i * 5 + 1, none⟩) hglt).trans c1; have q4 := (hSq.cell (p := ⟨g, i * 5 + 4, none⟩) hglt).trans c4; go_simp <;> first | with_reducible rfl | rfl)
  simp only [Act.put, List.setIfInBounds_toArray, List.set_cons_zero, List.set_cons_succ]
  refine take_on (i := 5) (v := ?_) rfl rfl (by kernel_rfl) (by kernel_rfl) (by kernel_rfl) (fun _ _ _ h => h) rfl ?_ hHeld ?_
  rotate_left
  · (intro wq hSq; have q0 := (hSq.cell (p := ⟨p, 0, none⟩) hplt).trans d0; have q1 := (hSq.cell (p := ⟨g, i * 5 + 1, none⟩) hglt).trans c1; have q4 := (hSq.cell (p := ⟨g, i * 5 + 4, none⟩) hglt).trans c4; go_simp <;> first | with_reducible rfl | rfl)
  simp only [Act.put, List.setIfInBounds_toArray, List.set_cons_zero, List.set_cons_succ]
  refine take_on (i := 6) (v := ?_) rfl rfl (by kernel_rfl) (by kernel_rfl) (by kernel_rfl) (fun _ _ _ h => h) rfl ?_ hHeld ?_
  rotate_left
  · (intro wq hSq; have q0 := (hSq.cell (p := ⟨p, 0, none⟩) hplt).trans d0; have q1 := (hSq.cell (p := ⟨g, i * 5 + 1, none⟩) hglt).trans c1; have q4 := (hSq.cell (p := ⟨g, i * 5 + 4, none⟩) hglt).trans c4; go_simp <;> first | with_reducible rfl | rfl)
  simp only [Act.put, List.setIfInBounds_toArray, List.set_cons_zero, List.set_cons_succ]
  refine take_on (i := 7) (v := ?_) rfl rfl (by kernel_rfl) (by kernel_rfl) (by kernel_rfl) (fun _ _ _ h => h) rfl ?_ hHeld ?_
  rotate_left
  · (intro wq hSq; have q0 := (hSq.cell (p := ⟨p, 0, none⟩) hplt).trans d0; have q1 := (hSq.cell (p := ⟨g, i * 5 + 1, none⟩) hglt).trans c1; have q4 := (hSq.cell (p := ⟨g, i * 5 + 4, none⟩) hglt).trans c4; go_simp <;> first | with_reducible rfl | rfl)
  simp only [Act.put, List.setIfInBounds_toArray, List.set_cons_zero, List.set_cons_succ]
  refine take_on (i := 8) (v := ?_) rfl rfl (by kernel_rfl) (by kernel_rfl) (by kernel_rfl) (fun _ _ _ h => h) rfl ?_ hHeld ?_
  rotate_left
  · (intro wq hSq; have q0 := (hSq.cell (p := ⟨p, 0, none⟩) hplt).trans d0; have q1 := (hSq.cell (p := ⟨g, i * 5 + 1, none⟩) hglt).trans c1; have q4 := (hSq.cell (p := ⟨g, i * 5 + 4, none⟩) hglt).trans c4; go_simp <;> first | with_reducible rfl | rfl)
  simp only [Act.put, List.setIfInBounds_toArray, List.set_cons_zero, List.set_cons_succ]
  refine take_on (i := 9) (v := ?_) rfl rfl (by kernel_rfl) (by kernel_rfl) (by kernel_rfl) (fun _ _ _ h => h) rfl ?_ hHeld ?_
  rotate_left
  · (intro wq hSq; have q0 := (hSq.cell (p := ⟨p, 0, none⟩) hplt).trans d0; have q1 := (hSq.cell (p := ⟨g, i * 5 + 1, none⟩) hglt).trans c1; have q4 := (hSq.cell (p := ⟨g, i * 5 + 4, none⟩) hglt).trans c4; go_simp <;> first | with_reducible rfl | rfl)
  simp only [Act.put, List.setIfInBounds_toArray, List.set_cons_zero, List.set_cons_succ]
  refine take_on (i := 10) (v := ?_) rfl rfl (by kernel_rfl) (by kernel_rfl) (by kernel_rfl) (fun _ _ _ h => h) rfl ?_ hHeld ?_
  rotate_left
  · (intro wq hSq; have q0 := (hSq.cell (p := ⟨p, 0, none⟩) hplt).trans d0; have q1 := (hSq.cell (p := ⟨g, i * 5 + 1, none⟩) hglt).trans c1; have q4 := (hSq.cell (p := ⟨g, i * 5 + 4, none⟩) hglt).trans c4; go_simp <;> first | with_reducible rfl | rfl)
  simp only [Act.put, List.setIfInBounds_toArray, List.set_cons_zero, List.set_cons_succ]
  refine take_on (i := 11) (v := ?_) rfl rfl (by kernel_rfl) (by kernel_rfl) (by kernel_rfl) (fun _ _ _ h => h) rfl ?_ hHeld ?_
  rotate_left
  · (intro wq hSq; have q0 := (hSq.cell (p := ⟨p, 0, none⟩) hplt).trans d0; have q1 := (hSq.cell (p := ⟨g, i * 5 + 1, none⟩) hglt).trans c1; have q4 := (hSq.cell (p := ⟨g, i * 5 + 4, none⟩) hglt).trans c4; go_simp <;> first | with_reducible rfl | rfl)
  simp only [Act.put, List.setIfInBounds_toArray, List.set_cons_zero, List.set_cons_succ]
  refine take_on (i := 12) (v := ?_) rfl rfl (by kernel_rfl) (by kernel_rfl) (by kernel_rfl) (fun _ _ _ h => h) rfl ?_ hHeld ?_
  rotate_left
  · (intro wq hSq; have q0 := (hSq.cell (p := ⟨p, 0, none⟩) hplt).trans d0; have q1 := (hSq.cell (p := ⟨g, i * 5 + 1, none⟩) hglt).trans c1; have q4 := (hSq.cell (p := ⟨g, i * 5 + 4, none⟩) hglt).trans c4; go_simp <;> first | with_reducible rfl | rfl)
  simp only [Act.put, List.setIfInBounds_toArray, List.set_cons_zero, List.set_cons_succ]
  refine take_on (i := 13) (v := ?_) rfl rfl (by kernel_rfl) (by kernel_rfl) (by kernel_rfl) (fun _ _ _ h => h) rfl ?_ hHeld ?_
  rotate_left
  · (intro wq hSq; have q0 := (hSq.cell (p := ⟨p, 0, none⟩) hplt).trans d0; have q1 := (hSq.cell (p := ⟨g, i * 5 + 1, none⟩) hglt).trans c1; have q4 := (hSq.cell (p := ⟨g, i * 5 + 4, none⟩) hglt).trans c4; go_simp <;> first | with_reducible rfl | rfl)
  simp only [Act.put, List.setIfInBounds_toArray, List.set_cons_zero, List.set_cons_succ]
  refine take_on (i := 14) (v := ?_) rfl rfl (by kernel_rfl) (by kernel_rfl) (by kernel_rfl) (fun _ _ _ h => h) rfl ?_ hHeld ?_
  rotate_left
  · (intro wq hSq; have q0 := (hSq.cell (p := ⟨p, 0, none⟩) hplt).trans d0; have q1 := (hSq.cell (p := ⟨g, i * 5 + 1, none⟩) hglt).trans c1; have q4 := (hSq.cell (p := ⟨g, i * 5 + 4, none⟩) hglt).trans c4; go_simp <;> first | with_reducible rfl | rfl)
  simp only [Act.put, List.setIfInBounds_toArray, List.set_cons_zero, List.set_cons_succ]
  refine take_on (i := 15) (v := ?_) rfl rfl (by kernel_rfl) (by kernel_rfl) (by kernel_rfl) (fun _ _ _ h => h) rfl ?_ hHeld ?_
  rotate_left
  · (intro wq hSq; have q0 := (hSq.cell (p := ⟨p, 0, none⟩) hplt).trans d0; have q1 := (hSq.cell (p := ⟨g, i * 5 + 1, none⟩) hglt).trans c1; have q4 := (hSq.cell (p := ⟨g, i * 5 + 4, none⟩) hglt).trans c4; go_simp <;> first | with_reducible rfl | rfl)
  simp only [Act.put, List.setIfInBounds_toArray, List.set_cons_zero, List.set_cons_succ]
  refine wpAnyH_done (by kernel_rfl) ?_ _
  go_wp2_with fail
  go_ret
  exact ⟨rfl, hHeld⟩

/-- What an operation of the area i leaves. -/
structure Opd (w : World) (F : Nat → Prop) (p : Nat) (am : Bool) (n : Nat) (s : Nat → Pt) (E : Int) (e : Ending) (w' : World) : Prop where
  ans : e = .returned (.int .i64 E)
  went : Went w F p am n s w'

set_option maxRecDepth 100000 in
set_option maxHeartbeats 1600000 in
theorem operate_append (h : Dk w F p am n s g C q v) (i : Nat) (hi : i < n) (x : Value) (hd : down am (s i) = false) (hcb : (s i).c ≤ 4611686018427387904) (B' : Nat) (bs' : List Nat) (k' : Nat) (hk : k' ≤ bs'.length)
    (hf : ∀ w1, Below w.heap.size w w1 → Calls Tryz.prog 69 #[.pointer (some ⟨g, i * 5, none⟩), x] w1 fun e w2 => e = .returned (.int .i64 0) ∧ Moved w1 (q i) 0 (v i) B' bs' k' w2) :
    Calls Tryz.prog 68 #[.pointer (some ⟨p, 0, none⟩), .int .i64 (i : Int), .func (.func 69) #[] #[x]] w fun e w' => Opd w F p am n (upd s i { s i with B := B', bs := bs', k := k', c := (s i).c + 1 }) 0 e w' := by
  have hp := part_ok h i hi
  obtain ⟨c0, c1, c2, c3, c4, _⟩ := h.at_ hi
  obtain ⟨d0, d1, _⟩ := h.cells
  have hplt := h.plt
  have hglt := h.glt
  have hgF : F g := h.foot g (.inr (.inl rfl))
  have hfd : am = false ∨ ¬ (s i).fd ≤ ((s i).c : Int) := by
    unfold down at hd
    cases am with
    | false => exact .inl rfl
    | true => right; simpa using hd
  clear hd
  have hfin : ∀ w1 w2, Below w.heap.size w w1 → Moved w1 (q i) 0 (v i) B' bs' k' w2 → (w2.cell? ⟨g, i * 5 + 4, none⟩ = some (.int .i64 ((s i).c : Int)) ∧ w2.frozen? ⟨g, i * 5 + 4, none⟩ = false) ∧ Went w F p am n (upd s i { s i with B := B', bs := bs', k := k', c := (s i).c + 1 }) (w2.setCell ⟨g, i * 5 + 4, none⟩ (.int .i64 (((s i).c + 1 : Nat) : Int))) := by
    intro w1 w2 hb hm
    obtain ⟨⟨v', h2⟩, hc2⟩ := (h.below hb).moved hi hm hk
    obtain ⟨_, _, _, _, e4, ef⟩ := h2.at_ hi
    rw [upd_at] at e4
    obtain ⟨C', h3⟩ := h2.count hi ((s i).c + 1)
    rw [upd_upd, upd_at] at h3
    have hs1 := hb.size
    have hs2 := hc2.size
    refine ⟨⟨e4, ef _⟩, ⟨g, C', q, v', h3.mono (fun j hj => ?_) (fun j hj => ?_)⟩, ((Chg.new hb).trans hc2 (fun _ _ x => x)).setCell _ _ (fun _ => hgF)⟩
    · rcases hj with hj | hj
      · exact .inl hj
      · exact .inr (by simp; omega)
    · rcases hj with hj | hj
      · have := h.lt j hj; simp; omega
      · exact hj.2
  have hwc : IntKind.i64.wrap (((s i).c : Int) + 1) = (((s i).c + 1 : Nat) : Int) := by rw [IntKind.wrap_i64]; omega
  obtain ⟨S', hS'⟩ : ∃ S', S' = upd s i { s i with B := B', bs := bs', k := k', c := (s i).c + 1 } := ⟨_, rfl⟩
  rw [← hS'] at hfin ⊢
  obtain ⟨fd, hfd'⟩ : ∃ x, x = (s i).fd := ⟨_, rfl⟩
  rw [← hfd'] at c1 hfd
  obtain ⟨cc, hcc⟩ : ∃ x, x = (s i).c := ⟨_, rfl⟩
  rw [← hcc] at c4 hfd hfin hwc hcb
  clear hfd' hcc hS' hk
  have hH := hide_it h
  clear h
  replace hfin := hide_it hfin
  go_enter Tryz.func68, Tryz.ntmps68
  go_wp2_with fail
  refine hp.mono ?_
  rintro e w1 ⟨rfl, hw⟩
  have hw2 := hw.symm
  subst hw2
  clear hw hp
  by_cases ham : am = true
  · subst ham
    have hfd2 : (cc : Int) < fd := by simpa using hfd
    clear hfd
    go_wp2_with fail
    refine wp_region_held_drew (S := (fun w' => Below w.heap.size w w')) (by kernel_rfl) ?_ (fun hHeld => ?_)
    · exact (Below.refl _ _).drew
    refine take_on (i := 0) (v := ?_) rfl rfl (by kernel_rfl) (by kernel_rfl) (by kernel_rfl) (fun _ _ _ h => h) rfl ?_ hHeld ?_
    rotate_left
    · (intro wq hSq; have q0 := (hSq.cell (p := ⟨p, 0, none⟩) hplt).trans d0; have q1 := (hSq.cell (p := ⟨g, i * 5 + 1, none⟩) hglt).trans c1; have q4 := (hSq.cell (p := ⟨g, i * 5 + 4, none⟩) hglt).trans c4; go_simp <;> first | with_reducible rfl | rfl)
    simp only [Act.put, List.setIfInBounds_toArray, List.set_cons_zero, List.set_cons_succ]
    refine take_on (i := 1) (v := ?_) rfl rfl (by kernel_rfl) (by kernel_rfl) (by kernel_rfl) (fun _ _ _ h => h) rfl ?_ hHeld ?_
    rotate_left
    · (intro wq hSq; have q0 := (hSq.cell (p := ⟨p, 0, none⟩) hplt).trans d0; have q1 := (hSq.cell (p := ⟨g, i * 5 + 1, none⟩) hglt).trans c1; have q4 := (hSq.cell (p := ⟨g, i * 5 + 4, none⟩) hglt).trans c4; go_simp <;> first | with_reducible rfl | rfl)
    simp only [Act.put, List.setIfInBounds_toArray, List.set_cons_zero, List.set_cons_succ]
    refine take_on (i := 2) (v := ?_) rfl rfl (by kernel_rfl) (by kernel_rfl) (by kernel_rfl) (fun _ _ _ h => h) rfl ?_ hHeld ?_
    rotate_left
    · (intro wq hSq; have q0 := (hSq.cell (p := ⟨p, 0, none⟩) hplt).trans d0; have q1 := (hSq.cell (p := ⟨g, i * 5 + 1, none⟩) hglt).trans c1; have q4 := (hSq.cell (p := ⟨g, i * 5 + 4, none⟩) hglt).trans c4; go_simp <;> first | with_reducible rfl | rfl)
    simp only [Act.put, List.setIfInBounds_toArray, List.set_cons_zero, List.set_cons_succ]
    refine take_on (i := 3) (v := ?_) rfl rfl (by kernel_rfl) (by kernel_rfl) (by kernel_rfl) (fun _ _ _ h => h) rfl ?_ hHeld ?_
    rotate_left
    · (intro wq hSq; have q0 := (hSq.cell (p := ⟨p, 0, none⟩) hplt).trans d0; have q1 := (hSq.cell (p := ⟨g, i * 5 + 1, none⟩) hglt).trans c1; have q4 := (hSq.cell (p := ⟨g, i * 5 + 4, none⟩) hglt).trans c4; go_simp <;> first | with_reducible rfl | rfl)
    simp only [Act.put, List.setIfInBounds_toArray, List.set_cons_zero, List.set_cons_succ]
    refine take_on (i := 4) (v := ?_) rfl rfl (by kernel_rfl) (by kernel_rfl) (by kernel_rfl) (fun _ _ _ h => h) rfl ?_ hHeld ?_
    rotate_left
    · (intro wq hSq; have q0 := (hSq.cell (p := ⟨p, 0, none⟩) hplt).trans d0; have q1 := (hSq.cell (p := ⟨g, i * 5 + 1, none⟩) hglt).trans c1; have q4 := (hSq.cell (p := ⟨g, i * 5 + 4, none⟩) hglt).trans c4; go_simp <;> first | with_reducible rfl | rfl)
    simp only [Act.put, List.setIfInBounds_toArray, List.set_cons_zero, List.set_cons_succ]
    refine take_on (i := 5) (v := ?_) rfl rfl (by kernel_rfl) (by kernel_rfl) (by kernel_rfl) (fun _ _ _ h => h) rfl ?_ hHeld ?_
    rotate_left
    · (intro wq hSq; have q0 := (hSq.cell (p := ⟨p, 0, none⟩) hplt).trans d0; have q1 := (hSq.cell (p := ⟨g, i * 5 + 1, none⟩) hglt).trans c1; have q4 := (hSq.cell (p := ⟨g, i * 5 + 4, none⟩) hglt).trans c4; go_simp <;> first | with_reducible rfl | rfl)
    simp only [Act.put, List.setIfInBounds_toArray, List.set_cons_zero, List.set_cons_succ]
    refine take_on (i := 6) (v := ?_) rfl rfl (by kernel_rfl) (by kernel_rfl) (by kernel_rfl) (fun _ _ _ h => h) rfl ?_ hHeld ?_
    rotate_left
    · (intro wq hSq; have q0 := (hSq.cell (p := ⟨p, 0, none⟩) hplt).trans d0; have q1 := (hSq.cell (p := ⟨g, i * 5 + 1, none⟩) hglt).trans c1; have q4 := (hSq.cell (p := ⟨g, i * 5 + 4, none⟩) hglt).trans c4; go_simp <;> first | with_reducible rfl | rfl)
    simp only [Act.put, List.setIfInBounds_toArray, List.set_cons_zero, List.set_cons_succ]
    refine take_on (i := 7) (v := ?_) rfl rfl (by kernel_rfl) (by kernel_rfl) (by kernel_rfl) (fun _ _ _ h => h) rfl ?_ hHeld ?_
    rotate_left
    · (intro wq hSq; have q0 := (hSq.cell (p := ⟨p, 0, none⟩) hplt).trans d0; have q1 := (hSq.cell (p := ⟨g, i * 5 + 1, none⟩) hglt).trans c1; have q4 := (hSq.cell (p := ⟨g, i * 5 + 4, none⟩) hglt).trans c4; go_simp <;> first | with_reducible rfl | rfl)
    simp only [Act.put, List.setIfInBounds_toArray, List.set_cons_zero, List.set_cons_succ]
    refine take_on (i := 8) (v := ?_) rfl rfl (by kernel_rfl) (by kernel_rfl) (by kernel_rfl) (fun _ _ _ h => h) rfl ?_ hHeld ?_
    rotate_left
    · (intro wq hSq; have q0 := (hSq.cell (p := ⟨p, 0, none⟩) hplt).trans d0; have q1 := (hSq.cell (p := ⟨g, i * 5 + 1, none⟩) hglt).trans c1; have q4 := (hSq.cell (p := ⟨g, i * 5 + 4, none⟩) hglt).trans c4; go_simp <;> first | with_reducible rfl | rfl)
    simp only [Act.put, List.setIfInBounds_toArray, List.set_cons_zero, List.set_cons_succ]
    refine take_on (i := 9) (v := ?_) rfl rfl (by kernel_rfl) (by kernel_rfl) (by kernel_rfl) (fun _ _ _ h => h) rfl ?_ hHeld ?_
    rotate_left
    · (intro wq hSq; have q0 := (hSq.cell (p := ⟨p, 0, none⟩) hplt).trans d0; have q1 := (hSq.cell (p := ⟨g, i * 5 + 1, none⟩) hglt).trans c1; have q4 := (hSq.cell (p := ⟨g, i * 5 + 4, none⟩) hglt).trans c4; go_simp <;> first | with_reducible rfl | rfl)
    simp only [Act.put, List.setIfInBounds_toArray, List.set_cons_zero, List.set_cons_succ]
    refine take_on (i := 10) (v := ?_) rfl rfl (by kernel_rfl) (by kernel_rfl) (by kernel_rfl) (fun _ _ _ h => h) rfl ?_ hHeld ?_
    rotate_left
    · (intro wq hSq; have q0 := (hSq.cell (p := ⟨p, 0, none⟩) hplt).trans d0; have q1 := (hSq.cell (p := ⟨g, i * 5 + 1, none⟩) hglt).trans c1; have q4 := (hSq.cell (p := ⟨g, i * 5 + 4, none⟩) hglt).trans c4; go_simp <;> first | with_reducible rfl | rfl)
    simp only [Act.put, List.setIfInBounds_toArray, List.set_cons_zero, List.set_cons_succ]
    refine take_on (i := 11) (v := ?_) rfl rfl (by kernel_rfl) (by kernel_rfl) (by kernel_rfl) (fun _ _ _ h => h) rfl ?_ hHeld ?_
    rotate_left
    · (intro wq hSq; have q0 := (hSq.cell (p := ⟨p, 0, none⟩) hplt).trans d0; have q1 := (hSq.cell (p := ⟨g, i * 5 + 1, none⟩) hglt).trans c1; have q4 := (hSq.cell (p := ⟨g, i * 5 + 4, none⟩) hglt).trans c4; go_simp <;> first | with_reducible rfl | rfl)
    simp only [Act.put, List.setIfInBounds_toArray, List.set_cons_zero, List.set_cons_succ]
    refine take_on (i := 12) (v := ?_) rfl rfl (by kernel_rfl) (by kernel_rfl) (by kernel_rfl) (fun _ _ _ h => h) rfl ?_ hHeld ?_
    rotate_left
    · (intro wq hSq; have q0 := (hSq.cell (p := ⟨p, 0, none⟩) hplt).trans d0; have q1 := (hSq.cell (p := ⟨g, i * 5 + 1, none⟩) hglt).trans c1; have q4 := (hSq.cell (p := ⟨g, i * 5 + 4, none⟩) hglt).trans c4; go_simp <;> first | with_reducible rfl | rfl)
    simp only [Act.put, List.setIfInBounds_toArray, List.set_cons_zero, List.set_cons_succ]
    refine take_on (i := 13) (v := ?_) rfl rfl (by kernel_rfl) (by kernel_rfl) (by kernel_rfl) (fun _ _ _ h => h) rfl ?_ hHeld ?_
    rotate_left
    · (intro wq hSq; have q0 := (hSq.cell (p := ⟨p, 0, none⟩) hplt).trans d0; have q1 := (hSq.cell (p := ⟨g, i * 5 + 1, none⟩) hglt).trans c1; have q4 := (hSq.cell (p := ⟨g, i * 5 + 4, none⟩) hglt).trans c4; go_simp <;> first | with_reducible rfl | rfl)
    simp only [Act.put, List.setIfInBounds_toArray, List.set_cons_zero, List.set_cons_succ]
    refine take_on (i := 14) (v := ?_) rfl rfl (by kernel_rfl) (by kernel_rfl) (by kernel_rfl) (fun _ _ _ h => h) rfl ?_ hHeld ?_
    rotate_left
    · (intro wq hSq; have q0 := (hSq.cell (p := ⟨p, 0, none⟩) hplt).trans d0; have q1 := (hSq.cell (p := ⟨g, i * 5 + 1, none⟩) hglt).trans c1; have q4 := (hSq.cell (p := ⟨g, i * 5 + 4, none⟩) hglt).trans c4; go_simp <;> first | with_reducible rfl | rfl)
    simp only [Act.put, List.setIfInBounds_toArray, List.set_cons_zero, List.set_cons_succ]
    refine take_on (i := 15) (v := ?_) rfl rfl (by kernel_rfl) (by kernel_rfl) (by kernel_rfl) (fun _ _ _ h => h) rfl ?_ hHeld ?_
    rotate_left
    · (intro wq hSq; have q0 := (hSq.cell (p := ⟨p, 0, none⟩) hplt).trans d0; have q1 := (hSq.cell (p := ⟨g, i * 5 + 1, none⟩) hglt).trans c1; have q4 := (hSq.cell (p := ⟨g, i * 5 + 4, none⟩) hglt).trans c4; go_simp <;> first | with_reducible rfl | rfl)
    simp only [Act.put, List.setIfInBounds_toArray, List.set_cons_zero, List.set_cons_succ]
    refine wpAnyH_done (by kernel_rfl) ?_ _
    have hcall := hf _ hHeld
    go_wp2_with fail
    refine hcall.mono ?_
    rintro e w2 ⟨rfl, hm⟩
    obtain ⟨⟨e4, ef⟩, hW⟩ := hfin.out _ _ hHeld hm
    clear hcall
    go_wp2_with fail
    go_ret
    exact ⟨rfl, by simpa using hW⟩
  · have ham : am = false := by simpa using ham
    subst ham
    clear hfd
    go_wp2_with fail
    refine wp_region_held_drew (S := (fun w' => Below w.heap.size w w')) (by kernel_rfl) ?_ (fun hHeld => ?_)
    · exact (Below.refl _ _).drew
    refine take_on (i := 0) (v := ?_) rfl rfl (by kernel_rfl) (by kernel_rfl) (by kernel_rfl) (fun _ _ _ h => h) rfl ?_ hHeld ?_
    rotate_left
    · (intro wq hSq; have q0 := (hSq.cell (p := ⟨p, 0, none⟩) hplt).trans d0; go_simp <;> first | with_reducible rfl | rfl)
    simp only [Act.put, List.setIfInBounds_toArray, List.set_cons_zero, List.set_cons_succ]
    refine take_on (i := 1) (v := ?_) rfl rfl (by kernel_rfl) (by kernel_rfl) (by kernel_rfl) (fun _ _ _ h => h) rfl ?_ hHeld ?_
    rotate_left
    · (intro wq hSq; have q0 := (hSq.cell (p := ⟨p, 0, none⟩) hplt).trans d0; go_simp <;> first | with_reducible rfl | rfl)
    simp only [Act.put, List.setIfInBounds_toArray, List.set_cons_zero, List.set_cons_succ]
    refine take_on (i := 2) (v := ?_) rfl rfl (by kernel_rfl) (by kernel_rfl) (by kernel_rfl) (fun _ _ _ h => h) rfl ?_ hHeld ?_
    rotate_left
    · (intro wq hSq; have q0 := (hSq.cell (p := ⟨p, 0, none⟩) hplt).trans d0; go_simp <;> first | with_reducible rfl | rfl)
    simp only [Act.put, List.setIfInBounds_toArray, List.set_cons_zero, List.set_cons_succ]
    refine take_on (i := 3) (v := ?_) rfl rfl (by kernel_rfl) (by kernel_rfl) (by kernel_rfl) (fun _ _ _ h => h) rfl ?_ hHeld ?_
    rotate_left
    · (intro wq hSq; have q0 := (hSq.cell (p := ⟨p, 0, none⟩) hplt).trans d0; go_simp <;> first | with_reducible rfl | rfl)
    simp only [Act.put, List.setIfInBounds_toArray, List.set_cons_zero, List.set_cons_succ]
    refine take_on (i := 4) (v := ?_) rfl rfl (by kernel_rfl) (by kernel_rfl) (by kernel_rfl) (fun _ _ _ h => h) rfl ?_ hHeld ?_
    rotate_left
    · (intro wq hSq; have q0 := (hSq.cell (p := ⟨p, 0, none⟩) hplt).trans d0; go_simp <;> first | with_reducible rfl | rfl)
    simp only [Act.put, List.setIfInBounds_toArray, List.set_cons_zero, List.set_cons_succ]
    refine take_off (i := 5) rfl rfl (by kernel_rfl) (by kernel_rfl) (by kernel_rfl) (fun _ _ _ h => h) rfl hHeld ?_
    simp only [Act.put, List.setIfInBounds_toArray, List.set_cons_zero, List.set_cons_succ]
    refine take_off (i := 6) rfl rfl (by kernel_rfl) (by kernel_rfl) (by kernel_rfl) (fun _ _ _ h => h) rfl hHeld ?_
    simp only [Act.put, List.setIfInBounds_toArray, List.set_cons_zero, List.set_cons_succ]
    refine take_off (i := 7) rfl rfl (by kernel_rfl) (by kernel_rfl) (by kernel_rfl) (fun _ _ _ h => h) rfl hHeld ?_
    simp only [Act.put, List.setIfInBounds_toArray, List.set_cons_zero, List.set_cons_succ]
    refine take_off (i := 8) rfl rfl (by kernel_rfl) (by kernel_rfl) (by kernel_rfl) (fun _ _ _ h => h) rfl hHeld ?_
    simp only [Act.put, List.setIfInBounds_toArray, List.set_cons_zero, List.set_cons_succ]
    refine take_off (i := 9) rfl rfl (by kernel_rfl) (by kernel_rfl) (by kernel_rfl) (fun _ _ _ h => h) rfl hHeld ?_
    simp only [Act.put, List.setIfInBounds_toArray, List.set_cons_zero, List.set_cons_succ]
    refine take_off (i := 10) rfl rfl (by kernel_rfl) (by kernel_rfl) (by kernel_rfl) (fun _ _ _ h => h) rfl hHeld ?_
    simp only [Act.put, List.setIfInBounds_toArray, List.set_cons_zero, List.set_cons_succ]
    refine take_off (i := 11) rfl rfl (by kernel_rfl) (by kernel_rfl) (by kernel_rfl) (fun _ _ _ h => h) rfl hHeld ?_
    simp only [Act.put, List.setIfInBounds_toArray, List.set_cons_zero, List.set_cons_succ]
    refine take_off (i := 12) rfl rfl (by kernel_rfl) (by kernel_rfl) (by kernel_rfl) (fun _ _ _ h => h) rfl hHeld ?_
    simp only [Act.put, List.setIfInBounds_toArray, List.set_cons_zero, List.set_cons_succ]
    refine take_off (i := 13) rfl rfl (by kernel_rfl) (by kernel_rfl) (by kernel_rfl) (fun _ _ _ h => h) rfl hHeld ?_
    simp only [Act.put, List.setIfInBounds_toArray, List.set_cons_zero, List.set_cons_succ]
    refine take_off (i := 14) rfl rfl (by kernel_rfl) (by kernel_rfl) (by kernel_rfl) (fun _ _ _ h => h) rfl hHeld ?_
    simp only [Act.put, List.setIfInBounds_toArray, List.set_cons_zero, List.set_cons_succ]
    refine take_on (i := 15) (v := ?_) rfl rfl (by kernel_rfl) (by kernel_rfl) (by kernel_rfl) (fun _ _ _ h => h) rfl ?_ hHeld ?_
    rotate_left
    · (intro wq hSq; have q0 := (hSq.cell (p := ⟨p, 0, none⟩) hplt).trans d0; go_simp <;> first | with_reducible rfl | rfl)
    simp only [Act.put, List.setIfInBounds_toArray, List.set_cons_zero, List.set_cons_succ]
    refine wpAnyH_done (by kernel_rfl) ?_ _
    have hcall := hf _ hHeld
    go_wp2_with fail
    refine hcall.mono ?_
    rintro e w2 ⟨rfl, hm⟩
    obtain ⟨⟨e4, ef⟩, hW⟩ := hfin.out _ _ hHeld hm
    clear hcall
    go_wp2_with fail
    go_ret
    exact ⟨rfl, by simpa using hW⟩

set_option maxRecDepth 100000 in
set_option maxHeartbeats 1600000 in
theorem operate_sync (h : Dk w F p am n s g C q v) (i : Nat) (hi : i < n)  (hd : down am (s i) = false) (hcb : (s i).c ≤ 4611686018427387904) (B' : Nat) (bs' : List Nat) (k' : Nat) (hk : k' ≤ bs'.length)
    (hf : ∀ w1, Below w.heap.size w w1 → Calls Tryz.prog 95 #[.pointer (some ⟨g, i * 5, none⟩)] w1 fun e w2 => e = .returned (.int .i64 0) ∧ Moved w1 (q i) 0 (v i) B' bs' k' w2) :
    Calls Tryz.prog 68 #[.pointer (some ⟨p, 0, none⟩), .int .i64 (i : Int), .func (.func 95) #[] #[]] w fun e w' => Opd w F p am n (upd s i { s i with B := B', bs := bs', k := k', c := (s i).c + 1 }) 0 e w' := by
  have hp := part_ok h i hi
  obtain ⟨c0, c1, c2, c3, c4, _⟩ := h.at_ hi
  obtain ⟨d0, d1, _⟩ := h.cells
  have hplt := h.plt
  have hglt := h.glt
  have hgF : F g := h.foot g (.inr (.inl rfl))
  have hfd : am = false ∨ ¬ (s i).fd ≤ ((s i).c : Int) := by
    unfold down at hd
    cases am with
    | false => exact .inl rfl
    | true => right; simpa using hd
  clear hd
  have hfin : ∀ w1 w2, Below w.heap.size w w1 → Moved w1 (q i) 0 (v i) B' bs' k' w2 → (w2.cell? ⟨g, i * 5 + 4, none⟩ = some (.int .i64 ((s i).c : Int)) ∧ w2.frozen? ⟨g, i * 5 + 4, none⟩ = false) ∧ Went w F p am n (upd s i { s i with B := B', bs := bs', k := k', c := (s i).c + 1 }) (w2.setCell ⟨g, i * 5 + 4, none⟩ (.int .i64 (((s i).c + 1 : Nat) : Int))) := by
    intro w1 w2 hb hm
    obtain ⟨⟨v', h2⟩, hc2⟩ := (h.below hb).moved hi hm hk
    obtain ⟨_, _, _, _, e4, ef⟩ := h2.at_ hi
    rw [upd_at] at e4
    obtain ⟨C', h3⟩ := h2.count hi ((s i).c + 1)
    rw [upd_upd, upd_at] at h3
    have hs1 := hb.size
    have hs2 := hc2.size
    refine ⟨⟨e4, ef _⟩, ⟨g, C', q, v', h3.mono (fun j hj => ?_) (fun j hj => ?_)⟩, ((Chg.new hb).trans hc2 (fun _ _ x => x)).setCell _ _ (fun _ => hgF)⟩
    · rcases hj with hj | hj
      · exact .inl hj
      · exact .inr (by simp; omega)
    · rcases hj with hj | hj
      · have := h.lt j hj; simp; omega
      · exact hj.2
  have hwc : IntKind.i64.wrap (((s i).c : Int) + 1) = (((s i).c + 1 : Nat) : Int) := by rw [IntKind.wrap_i64]; omega
  obtain ⟨S', hS'⟩ : ∃ S', S' = upd s i { s i with B := B', bs := bs', k := k', c := (s i).c + 1 } := ⟨_, rfl⟩
  rw [← hS'] at hfin ⊢
  obtain ⟨fd, hfd'⟩ : ∃ x, x = (s i).fd := ⟨_, rfl⟩
  rw [← hfd'] at c1 hfd
  obtain ⟨cc, hcc⟩ : ∃ x, x = (s i).c := ⟨_, rfl⟩
  rw [← hcc] at c4 hfd hfin hwc hcb
  clear hfd' hcc hS' hk
  have hH := hide_it h
  clear h
  replace hfin := hide_it hfin
  go_enter Tryz.func68, Tryz.ntmps68
  go_wp2_with fail
  refine hp.mono ?_
  rintro e w1 ⟨rfl, hw⟩
  have hw2 := hw.symm
  subst hw2
  clear hw hp
  by_cases ham : am = true
  · subst ham
    have hfd2 : (cc : Int) < fd := by simpa using hfd
    clear hfd
    go_wp2_with fail
    refine wp_region_held_drew (S := (fun w' => Below w.heap.size w w')) (by kernel_rfl) ?_ (fun hHeld => ?_)
    · exact (Below.refl _ _).drew
    refine take_on (i := 0) (v := ?_) rfl rfl (by kernel_rfl) (by kernel_rfl) (by kernel_rfl) (fun _ _ _ h => h) rfl ?_ hHeld ?_
    rotate_left
    · (intro wq hSq; have q0 := (hSq.cell (p := ⟨p, 0, none⟩) hplt).trans d0; have q1 := (hSq.cell (p := ⟨g, i * 5 + 1, none⟩) hglt).trans c1; have q4 := (hSq.cell (p := ⟨g, i * 5 + 4, none⟩) hglt).trans c4; go_simp <;> first | with_reducible rfl | rfl)
    simp only [Act.put, List.setIfInBounds_toArray, List.set_cons_zero, List.set_cons_succ]
    refine take_on (i := 1) (v := ?_) rfl rfl (by kernel_rfl) (by kernel_rfl) (by kernel_rfl) (fun _ _ _ h => h) rfl ?_ hHeld ?_
    rotate_left
    · (intro wq hSq; have q0 := (hSq.cell (p := ⟨p, 0, none⟩) hplt).trans d0; have q1 := (hSq.cell (p := ⟨g, i * 5 + 1, none⟩) hglt).trans c1; have q4 := (hSq.cell (p := ⟨g, i * 5 + 4, none⟩) hglt).trans c4; go_simp <;> first | with_reducible rfl | rfl)
    simp only [Act.put, List.setIfInBounds_toArray, List.set_cons_zero, List.set_cons_succ]
    refine take_on (i := 2) (v := ?_) rfl rfl (by kernel_rfl) (by kernel_rfl) (by kernel_rfl) (fun _ _ _ h => h) rfl ?_ hHeld ?_
    rotate_left
    · (intro wq hSq; have q0 := (hSq.cell (p := ⟨p, 0, none⟩) hplt).trans d0; have q1 := (hSq.cell (p := ⟨g, i * 5 + 1, none⟩) hglt).trans c1; have q4 := (hSq.cell (p := ⟨g, i * 5 + 4, none⟩) hglt).trans c4; go_simp <;> first | with_reducible rfl | rfl)
    simp only [Act.put, List.setIfInBounds_toArray, List.set_cons_zero, List.set_cons_succ]
    refine take_on (i := 3) (v := ?_) rfl rfl (by kernel_rfl) (by kernel_rfl) (by kernel_rfl) (fun _ _ _ h => h) rfl ?_ hHeld ?_
    rotate_left
    · (intro wq hSq; have q0 := (hSq.cell (p := ⟨p, 0, none⟩) hplt).trans d0; have q1 := (hSq.cell (p := ⟨g, i * 5 + 1, none⟩) hglt).trans c1; have q4 := (hSq.cell (p := ⟨g, i * 5 + 4, none⟩) hglt).trans c4; go_simp <;> first | with_reducible rfl | rfl)
    simp only [Act.put, List.setIfInBounds_toArray, List.set_cons_zero, List.set_cons_succ]
    refine take_on (i := 4) (v := ?_) rfl rfl (by kernel_rfl) (by kernel_rfl) (by kernel_rfl) (fun _ _ _ h => h) rfl ?_ hHeld ?_
    rotate_left
    · (intro wq hSq; have q0 := (hSq.cell (p := ⟨p, 0, none⟩) hplt).trans d0; have q1 := (hSq.cell (p := ⟨g, i * 5 + 1, none⟩) hglt).trans c1; have q4 := (hSq.cell (p := ⟨g, i * 5 + 4, none⟩) hglt).trans c4; go_simp <;> first | with_reducible rfl | rfl)
    simp only [Act.put, List.setIfInBounds_toArray, List.set_cons_zero, List.set_cons_succ]
    refine take_on (i := 5) (v := ?_) rfl rfl (by kernel_rfl) (by kernel_rfl) (by kernel_rfl) (fun _ _ _ h => h) rfl ?_ hHeld ?_
    rotate_left
    · (intro wq hSq; have q0 := (hSq.cell (p := ⟨p, 0, none⟩) hplt).trans d0; have q1 := (hSq.cell (p := ⟨g, i * 5 + 1, none⟩) hglt).trans c1; have q4 := (hSq.cell (p := ⟨g, i * 5 + 4, none⟩) hglt).trans c4; go_simp <;> first | with_reducible rfl | rfl)
    simp only [Act.put, List.setIfInBounds_toArray, List.set_cons_zero, List.set_cons_succ]
    refine take_on (i := 6) (v := ?_) rfl rfl (by kernel_rfl) (by kernel_rfl) (by kernel_rfl) (fun _ _ _ h => h) rfl ?_ hHeld ?_
    rotate_left
    · (intro wq hSq; have q0 := (hSq.cell (p := ⟨p, 0, none⟩) hplt).trans d0; have q1 := (hSq.cell (p := ⟨g, i * 5 + 1, none⟩) hglt).trans c1; have q4 := (hSq.cell (p := ⟨g, i * 5 + 4, none⟩) hglt).trans c4; go_simp <;> first | with_reducible rfl | rfl)
    simp only [Act.put, List.setIfInBounds_toArray, List.set_cons_zero, List.set_cons_succ]
    refine take_on (i := 7) (v := ?_) rfl rfl (by kernel_rfl) (by kernel_rfl) (by kernel_rfl) (fun _ _ _ h => h) rfl ?_ hHeld ?_
    rotate_left
    · (intro wq hSq; have q0 := (hSq.cell (p := ⟨p, 0, none⟩) hplt).trans d0; have q1 := (hSq.cell (p := ⟨g, i * 5 + 1, none⟩) hglt).trans c1; have q4 := (hSq.cell (p := ⟨g, i * 5 + 4, none⟩) hglt).trans c4; go_simp <;> first | with_reducible rfl | rfl)
    simp only [Act.put, List.setIfInBounds_toArray, List.set_cons_zero, List.set_cons_succ]
    refine take_on (i := 8) (v := ?_) rfl rfl (by kernel_rfl) (by kernel_rfl) (by kernel_rfl) (fun _ _ _ h => h) rfl ?_ hHeld ?_
    rotate_left
    · (intro wq hSq; have q0 := (hSq.cell (p := ⟨p, 0, none⟩) hplt).trans d0; have q1 := (hSq.cell (p := ⟨g, i * 5 + 1, none⟩) hglt).trans c1; have q4 := (hSq.cell (p := ⟨g, i * 5 + 4, none⟩) hglt).trans c4; go_simp <;> first | with_reducible rfl | rfl)
    simp only [Act.put, List.setIfInBounds_toArray, List.set_cons_zero, List.set_cons_succ]
    refine take_on (i := 9) (v := ?_) rfl rfl (by kernel_rfl) (by kernel_rfl) (by kernel_rfl) (fun _ _ _ h => h) rfl ?_ hHeld ?_
    rotate_left
    · (intro wq hSq; have q0 := (hSq.cell (p := ⟨p, 0, none⟩) hplt).trans d0; have q1 := (hSq.cell (p := ⟨g, i * 5 + 1, none⟩) hglt).trans c1; have q4 := (hSq.cell (p := ⟨g, i * 5 + 4, none⟩) hglt).trans c4; go_simp <;> first | with_reducible rfl | rfl)
    simp only [Act.put, List.setIfInBounds_toArray, List.set_cons_zero, List.set_cons_succ]
    refine take_on (i := 10) (v := ?_) rfl rfl (by kernel_rfl) (by kernel_rfl) (by kernel_rfl) (fun _ _ _ h => h) rfl ?_ hHeld ?_
    rotate_left
    · (intro wq hSq; have q0 := (hSq.cell (p := ⟨p, 0, none⟩) hplt).trans d0; have q1 := (hSq.cell (p := ⟨g, i * 5 + 1, none⟩) hglt).trans c1; have q4 := (hSq.cell (p := ⟨g, i * 5 + 4, none⟩) hglt).trans c4; go_simp <;> first | with_reducible rfl | rfl)
    simp only [Act.put, List.setIfInBounds_toArray, List.set_cons_zero, List.set_cons_succ]
    refine take_on (i := 11) (v := ?_) rfl rfl (by kernel_rfl) (by kernel_rfl) (by kernel_rfl) (fun _ _ _ h => h) rfl ?_ hHeld ?_
    rotate_left
    · (intro wq hSq; have q0 := (hSq.cell (p := ⟨p, 0, none⟩) hplt).trans d0; have q1 := (hSq.cell (p := ⟨g, i * 5 + 1, none⟩) hglt).trans c1; have q4 := (hSq.cell (p := ⟨g, i * 5 + 4, none⟩) hglt).trans c4; go_simp <;> first | with_reducible rfl | rfl)
    simp only [Act.put, List.setIfInBounds_toArray, List.set_cons_zero, List.set_cons_succ]
    refine take_on (i := 12) (v := ?_) rfl rfl (by kernel_rfl) (by kernel_rfl) (by kernel_rfl) (fun _ _ _ h => h) rfl ?_ hHeld ?_
    rotate_left
    · (intro wq hSq; have q0 := (hSq.cell (p := ⟨p, 0, none⟩) hplt).trans d0; have q1 := (hSq.cell (p := ⟨g, i * 5 + 1, none⟩) hglt).trans c1; have q4 := (hSq.cell (p := ⟨g, i * 5 + 4, none⟩) hglt).trans c4; go_simp <;> first | with_reducible rfl | rfl)
    simp only [Act.put, List.setIfInBounds_toArray, List.set_cons_zero, List.set_cons_succ]
    refine take_on (i := 13) (v := ?_) rfl rfl (by kernel_rfl) (by kernel_rfl) (by kernel_rfl) (fun _ _ _ h => h) rfl ?_ hHeld ?_
    rotate_left
    · (intro wq hSq; have q0 := (hSq.cell (p := ⟨p, 0, none⟩) hplt).trans d0; have q1 := (hSq.cell (p := ⟨g, i * 5 + 1, none⟩) hglt).trans c1; have q4 := (hSq.cell (p := ⟨g, i * 5 + 4, none⟩) hglt).trans c4; go_simp <;> first | with_reducible rfl | rfl)
    simp only [Act.put, List.setIfInBounds_toArray, List.set_cons_zero, List.set_cons_succ]
    refine take_on (i := 14) (v := ?_) rfl rfl (by kernel_rfl) (by kernel_rfl) (by kernel_rfl) (fun _ _ _ h => h) rfl ?_ hHeld ?_
    rotate_left
    · (intro wq hSq; have q0 := (hSq.cell (p := ⟨p, 0, none⟩) hplt).trans d0; have q1 := (hSq.cell (p := ⟨g, i * 5 + 1, none⟩) hglt).trans c1; have q4 := (hSq.cell (p := ⟨g, i * 5 + 4, none⟩) hglt).trans c4; go_simp <;> first | with_reducible rfl | rfl)
    simp only [Act.put, List.setIfInBounds_toArray, List.set_cons_zero, List.set_cons_succ]
    refine take_on (i := 15) (v := ?_) rfl rfl (by kernel_rfl) (by kernel_rfl) (by kernel_rfl) (fun _ _ _ h => h) rfl ?_ hHeld ?_
    rotate_left
    · (intro wq hSq; have q0 := (hSq.cell (p := ⟨p, 0, none⟩) hplt).trans d0; have q1 := (hSq.cell (p := ⟨g, i * 5 + 1, none⟩) hglt).trans c1; have q4 := (hSq.cell (p := ⟨g, i * 5 + 4, none⟩) hglt).trans c4; go_simp <;> first | with_reducible rfl | rfl)
    simp only [Act.put, List.setIfInBounds_toArray, List.set_cons_zero, List.set_cons_succ]
    refine wpAnyH_done (by kernel_rfl) ?_ _
    have hcall := hf _ hHeld
    go_wp2_with fail
    refine hcall.mono ?_
    rintro e w2 ⟨rfl, hm⟩
    obtain ⟨⟨e4, ef⟩, hW⟩ := hfin.out _ _ hHeld hm
    clear hcall
    go_wp2_with fail
    go_ret
    exact ⟨rfl, by simpa using hW⟩
  · have ham : am = false := by simpa using ham
    subst ham
    clear hfd
    go_wp2_with fail
    refine wp_region_held_drew (S := (fun w' => Below w.heap.size w w')) (by kernel_rfl) ?_ (fun hHeld => ?_)
    · exact (Below.refl _ _).drew
    refine take_on (i := 0) (v := ?_) rfl rfl (by kernel_rfl) (by kernel_rfl) (by kernel_rfl) (fun _ _ _ h => h) rfl ?_ hHeld ?_
    rotate_left
    · (intro wq hSq; have q0 := (hSq.cell (p := ⟨p, 0, none⟩) hplt).trans d0; go_simp <;> first | with_reducible rfl | rfl)
    simp only [Act.put, List.setIfInBounds_toArray, List.set_cons_zero, List.set_cons_succ]
    refine take_on (i := 1) (v := ?_) rfl rfl (by kernel_rfl) (by kernel_rfl) (by kernel_rfl) (fun _ _ _ h => h) rfl ?_ hHeld ?_
    rotate_left
    · (intro wq hSq; have q0 := (hSq.cell (p := ⟨p, 0, none⟩) hplt).trans d0; go_simp <;> first | with_reducible rfl | rfl)
    simp only [Act.put, List.setIfInBounds_toArray, List.set_cons_zero, List.set_cons_succ]
    refine take_on (i := 2) (v := ?_) rfl rfl (by kernel_rfl) (by kernel_rfl) (by kernel_rfl) (fun _ _ _ h => h) rfl ?_ hHeld ?_
    rotate_left
    · (intro wq hSq; have q0 := (hSq.cell (p := ⟨p, 0, none⟩) hplt).trans d0; go_simp <;> first | with_reducible rfl | rfl)
    simp only [Act.put, List.setIfInBounds_toArray, List.set_cons_zero, List.set_cons_succ]
    refine take_on (i := 3) (v := ?_) rfl rfl (by kernel_rfl) (by kernel_rfl) (by kernel_rfl) (fun _ _ _ h => h) rfl ?_ hHeld ?_
    rotate_left
    · (intro wq hSq; have q0 := (hSq.cell (p := ⟨p, 0, none⟩) hplt).trans d0; go_simp <;> first | with_reducible rfl | rfl)
    simp only [Act.put, List.setIfInBounds_toArray, List.set_cons_zero, List.set_cons_succ]
    refine take_on (i := 4) (v := ?_) rfl rfl (by kernel_rfl) (by kernel_rfl) (by kernel_rfl) (fun _ _ _ h => h) rfl ?_ hHeld ?_
    rotate_left
    · (intro wq hSq; have q0 := (hSq.cell (p := ⟨p, 0, none⟩) hplt).trans d0; go_simp <;> first | with_reducible rfl | rfl)
    simp only [Act.put, List.setIfInBounds_toArray, List.set_cons_zero, List.set_cons_succ]
    refine take_off (i := 5) rfl rfl (by kernel_rfl) (by kernel_rfl) (by kernel_rfl) (fun _ _ _ h => h) rfl hHeld ?_
    simp only [Act.put, List.setIfInBounds_toArray, List.set_cons_zero, List.set_cons_succ]
    refine take_off (i := 6) rfl rfl (by kernel_rfl) (by kernel_rfl) (by kernel_rfl) (fun _ _ _ h => h) rfl hHeld ?_
    simp only [Act.put, List.setIfInBounds_toArray, List.set_cons_zero, List.set_cons_succ]
    refine take_off (i := 7) rfl rfl (by kernel_rfl) (by kernel_rfl) (by kernel_rfl) (fun _ _ _ h => h) rfl hHeld ?_
    simp only [Act.put, List.setIfInBounds_toArray, List.set_cons_zero, List.set_cons_succ]
    refine take_off (i := 8) rfl rfl (by kernel_rfl) (by kernel_rfl) (by kernel_rfl) (fun _ _ _ h => h) rfl hHeld ?_
    simp only [Act.put, List.setIfInBounds_toArray, List.set_cons_zero, List.set_cons_succ]
    refine take_off (i := 9) rfl rfl (by kernel_rfl) (by kernel_rfl) (by kernel_rfl) (fun _ _ _ h => h) rfl hHeld ?_
    simp only [Act.put, List.setIfInBounds_toArray, List.set_cons_zero, List.set_cons_succ]
    refine take_off (i := 10) rfl rfl (by kernel_rfl) (by kernel_rfl) (by kernel_rfl) (fun _ _ _ h => h) rfl hHeld ?_
    simp only [Act.put, List.setIfInBounds_toArray, List.set_cons_zero, List.set_cons_succ]
    refine take_off (i := 11) rfl rfl (by kernel_rfl) (by kernel_rfl) (by kernel_rfl) (fun _ _ _ h => h) rfl hHeld ?_
    simp only [Act.put, List.setIfInBounds_toArray, List.set_cons_zero, List.set_cons_succ]
    refine take_off (i := 12) rfl rfl (by kernel_rfl) (by kernel_rfl) (by kernel_rfl) (fun _ _ _ h => h) rfl hHeld ?_
    simp only [Act.put, List.setIfInBounds_toArray, List.set_cons_zero, List.set_cons_succ]
    refine take_off (i := 13) rfl rfl (by kernel_rfl) (by kernel_rfl) (by kernel_rfl) (fun _ _ _ h => h) rfl hHeld ?_
    simp only [Act.put, List.setIfInBounds_toArray, List.set_cons_zero, List.set_cons_succ]
    refine take_off (i := 14) rfl rfl (by kernel_rfl) (by kernel_rfl) (by kernel_rfl) (fun _ _ _ h => h) rfl hHeld ?_
    simp only [Act.put, List.setIfInBounds_toArray, List.set_cons_zero, List.set_cons_succ]
    refine take_on (i := 15) (v := ?_) rfl rfl (by kernel_rfl) (by kernel_rfl) (by kernel_rfl) (fun _ _ _ h => h) rfl ?_ hHeld ?_
    rotate_left
    · (intro wq hSq; have q0 := (hSq.cell (p := ⟨p, 0, none⟩) hplt).trans d0; go_simp <;> first | with_reducible rfl | rfl)
    simp only [Act.put, List.setIfInBounds_toArray, List.set_cons_zero, List.set_cons_succ]
    refine wpAnyH_done (by kernel_rfl) ?_ _
    have hcall := hf _ hHeld
    go_wp2_with fail
    refine hcall.mono ?_
    rintro e w2 ⟨rfl, hm⟩
    obtain ⟨⟨e4, ef⟩, hW⟩ := hfin.out _ _ hHeld hm
    clear hcall
    go_wp2_with fail
    go_ret
    exact ⟨rfl, by simpa using hW⟩
end

end Go.Proofs.YtkacfpmninmjkaaGreat

namespace Go.Proofs.YtkacfpmninmjkaaGreat
open Go.RowKit

section
variable {w : World} {F : Nat → Prop} {p : Nat} {am : Bool} {n : Nat} {s : Nat → Pt} {g : Nat} {C : Array Value} {q : Nat → Nat} {v : Nat → Value}

set_option maxRecDepth 100000 in
set_option maxHeartbeats 1600000 in
theorem operate_cut (h : Dk w F p am n s g C q v) (i : Nat) (hi : i < n) (x : Value) (hd : down am (s i) = false) (hcb : (s i).c ≤ 4611686018427387904) (B' : Nat) (bs' : List Nat) (k' : Nat) (hk : k' ≤ bs'.length)
    (hf : ∀ w1, Below w.heap.size w w1 → Calls Tryz.prog 88 #[.pointer (some ⟨g, i * 5, none⟩), x] w1 fun e w2 => e = .returned (.int .i64 0) ∧ Moved w1 (q i) 0 (v i) B' bs' k' w2) :
    Calls Tryz.prog 68 #[.pointer (some ⟨p, 0, none⟩), .int .i64 (i : Int), .func (.func 88) #[] #[x]] w fun e w' => Opd w F p am n (upd s i { s i with B := B', bs := bs', k := k', c := (s i).c + 1 }) 0 e w' := by
  have hp := part_ok h i hi
  obtain ⟨c0, c1, c2, c3, c4, _⟩ := h.at_ hi
  obtain ⟨d0, d1, _⟩ := h.cells
  have hplt := h.plt
  have hglt := h.glt
  have hgF : F g := h.foot g (.inr (.inl rfl))
  have hfd : am = false ∨ ¬ (s i).fd ≤ ((s i).c : Int) := by
    unfold down at hd
    cases am with
    | false => exact .inl rfl
    | true => right; simpa using hd
  clear hd
  have hfin : ∀ w1 w2, Below w.heap.size w w1 → Moved w1 (q i) 0 (v i) B' bs' k' w2 → (w2.cell? ⟨g, i * 5 + 4, none⟩ = some (.int .i64 ((s i).c : Int)) ∧ w2.frozen? ⟨g, i * 5 + 4, none⟩ = false) ∧ Went w F p am n (upd s i { s i with B := B', bs := bs', k := k', c := (s i).c + 1 }) (w2.setCell ⟨g, i * 5 + 4, none⟩ (.int .i64 (((s i).c + 1 : Nat) : Int))) := by
    intro w1 w2 hb hm
    obtain ⟨⟨v', h2⟩, hc2⟩ := (h.below hb).moved hi hm hk
    obtain ⟨_, _, _, _, e4, ef⟩ := h2.at_ hi
    rw [upd_at] at e4
    obtain ⟨C', h3⟩ := h2.count hi ((s i).c + 1)
    rw [upd_upd, upd_at] at h3
    have hs1 := hb.size
    have hs2 := hc2.size
    refine ⟨⟨e4, ef _⟩, ⟨g, C', q, v', h3.mono (fun j hj => ?_) (fun j hj => ?_)⟩, ((Chg.new hb).trans hc2 (fun _ _ x => x)).setCell _ _ (fun _ => hgF)⟩
    · rcases hj with hj | hj
      · exact .inl hj
      · exact .inr (by simp; omega)
    · rcases hj with hj | hj
      · have := h.lt j hj; simp; omega
      · exact hj.2
  have hwc : IntKind.i64.wrap (((s i).c : Int) + 1) = (((s i).c + 1 : Nat) : Int) := by rw [IntKind.wrap_i64]; omega
  obtain ⟨S', hS'⟩ : ∃ S', S' = upd s i { s i with B := B', bs := bs', k := k', c := (s i).c + 1 } := ⟨_, rfl⟩
  rw [← hS'] at hfin ⊢
  obtain ⟨fd, hfd'⟩ : ∃ x, x = (s i).fd := ⟨_, rfl⟩
  rw [← hfd'] at c1 hfd
  obtain ⟨cc, hcc⟩ : ∃ x, x = (s i).c := ⟨_, rfl⟩
  rw [← hcc] at c4 hfd hfin hwc hcb
  clear hfd' hcc hS' hk
  have hH := hide_it h
  clear h
  replace hfin := hide_it hfin
  go_enter Tryz.func68, Tryz.ntmps68
  go_wp2_with fail
  refine hp.mono ?_
  rintro e w1 ⟨rfl, hw⟩
  have hw2 := hw.symm
  subst hw2
  clear hw hp
  by_cases ham : am = true
  · subst ham
    have hfd2 : (cc : Int) < fd := by simpa using hfd
    clear hfd
    go_wp2_with fail
    refine wp_region_held_drew (S := (fun w' => Below w.heap.size w w')) (by kernel_rfl) ?_ (fun hHeld => ?_)
    · exact (Below.refl _ _).drew
    refine take_on (i := 0) (v := ?_) rfl rfl (by kernel_rfl) (by kernel_rfl) (by kernel_rfl) (fun _ _ _ h => h) rfl ?_ hHeld ?_
    rotate_left
    · (intro wq hSq; have q0 := (hSq.cell (p := ⟨p, 0, none⟩) hplt).trans d0; have q1 := (hSq.cell (p := ⟨g, i * 5 + 1, none⟩) hglt).trans c1; have q4 := (hSq.cell (p := ⟨g, i * 5 + 4, none⟩) hglt).trans c4; go_simp <;> first | with_reducible rfl | rfl)
    simp only [Act.put, List.setIfInBounds_toArray, List.set_cons_zero, List.set_cons_succ]
    refine take_on (i := 1) (v := ?_) rfl rfl (by kernel_rfl) (by kernel_rfl) (by kernel_rfl) (fun _ _ _ h => h) rfl ?_ hHeld ?_
    rotate_left
    · (intro wq hSq; have q0 := (hSq.cell (p := ⟨p, 0, none⟩) hplt).trans d0; have q1 := (hSq.cell (p := ⟨g, i * 5 + 1, none⟩) hglt).trans c1; have q4 := (hSq.cell (p := ⟨g, i * 5 + 4, none⟩) hglt).trans c4; go_simp <;> first | with_reducible rfl | rfl)
    simp only [Act.put, List.setIfInBounds_toArray, List.set_cons_zero, List.set_cons_succ]
    refine take_on (i := 2) (v := ?_) rfl rfl (by kernel_rfl) (by kernel_rfl) (by kernel_rfl) (fun _ _ _ h => h) rfl ?_ hHeld ?_
    rotate_left
    · (intro wq hSq; have q0 := (hSq.cell (p := ⟨p, 0, none⟩) hplt).trans d0; have q1 := (hSq.cell (p := ⟨g, i * 5 + 1, none⟩) hglt).trans c1; have q4 := (hSq.cell (p := ⟨g, i * 5 + 4, none⟩) hglt).trans c4; go_simp <;> first | with_reducible rfl | rfl)
    simp only [Act.put, List.setIfInBounds_toArray, List.set_cons_zero, List.set_cons_succ]
    refine take_on (i := 3) (v := ?_) rfl rfl (by kernel_rfl) (by kernel_rfl) (by kernel_rfl) (fun _ _ _ h => h) rfl ?_ hHeld ?_
    rotate_left
    · (intro wq hSq; have q0 := (hSq.cell (p := ⟨p, 0, none⟩) hplt).trans d0; have q1 := (hSq.cell (p := ⟨g, i * 5 + 1, none⟩) hglt).trans c1; have q4 := (hSq.cell (p := ⟨g, i * 5 + 4, none⟩) hglt).trans c4; go_simp <;> first | with_reducible rfl | rfl)
    simp only [Act.put, List.setIfInBounds_toArray, List.set_cons_zero, List.set_cons_succ]
    refine take_on (i := 4) (v := ?_) rfl rfl (by kernel_rfl) (by kernel_rfl) (by kernel_rfl) (fun _ _ _ h => h) rfl ?_ hHeld ?_
    rotate_left
    · (intro wq hSq; have q0 := (hSq.cell (p := ⟨p, 0, none⟩) hplt).trans d0; have q1 := (hSq.cell (p := ⟨g, i * 5 + 1, none⟩) hglt).trans c1; have q4 := (hSq.cell (p := ⟨g, i * 5 + 4, none⟩) hglt).trans c4; go_simp <;> first | with_reducible rfl | rfl)
    simp only [Act.put, List.setIfInBounds_toArray, List.set_cons_zero, List.set_cons_succ]
    refine take_on (i := 5) (v := ?_) rfl rfl (by kernel_rfl) (by kernel_rfl) (by kernel_rfl) (fun _ _ _ h => h) rfl ?_ hHeld ?_
    rotate_left
    · (intro wq hSq; have q0 := (hSq.cell (p := ⟨p, 0, none⟩) hplt).trans d0; have q1 := (hSq.cell (p := ⟨g, i * 5 + 1, none⟩) hglt).trans c1; have q4 := (hSq.cell (p := ⟨g, i * 5 + 4, none⟩) hglt).trans c4; go_simp <;> first | with_reducible rfl | rfl)
    simp only [Act.put, List.setIfInBounds_toArray, List.set_cons_zero, List.set_cons_succ]
    refine take_on (i := 6) (v := ?_) rfl rfl (by kernel_rfl) (by kernel_rfl) (by kernel_rfl) (fun _ _ _ h => h) rfl ?_ hHeld ?_
    rotate_left
    · (intro wq hSq; have q0 := (hSq.cell (p := ⟨p, 0, none⟩) hplt).trans d0; have q1 := (hSq.cell (p := ⟨g, i * 5 + 1, none⟩) hglt).trans c1; have q4 := (hSq.cell (p := ⟨g, i * 5 + 4, none⟩) hglt).trans c4; go_simp <;> first | with_reducible rfl | rfl)
    simp only [Act.put, List.setIfInBounds_toArray, List.set_cons_zero, List.set_cons_succ]
    refine take_on (i := 7) (v := ?_) rfl rfl (by kernel_rfl) (by kernel_rfl) (by kernel_rfl) (fun _ _ _ h => h) rfl ?_ hHeld ?_
    rotate_left
    · (intro wq hSq; have q0 := (hSq.cell (p := ⟨p, 0, none⟩) hplt).trans d0; have q1 := (hSq.cell (p := ⟨g, i * 5 + 1, none⟩) hglt).trans c1; have q4 := (hSq.cell (p := ⟨g, i * 5 + 4, none⟩) hglt).trans c4; go_simp <;> first | with_reducible rfl | rfl)
    simp only [Act.put, List.setIfInBounds_toArray, List.set_cons_zero, List.set_cons_succ]
    refine take_on (i := 8) (v := ?_) rfl rfl (by kernel_rfl) (by kernel_rfl) (by kernel_rfl) (fun _ _ _ h => h) rfl ?_ hHeld ?_
    rotate_left
    · (intro wq hSq; have q0 := (hSq.cell (p := ⟨p, 0, none⟩) hplt).trans d0; have q1 := (hSq.cell (p := ⟨g, i * 5 + 1, none⟩) hglt).trans c1; have q4 := (hSq.cell (p := ⟨g, i * 5 + 4, none⟩) hglt).trans c4; go_simp <;> first | with_reducible rfl | rfl)
    simp only [Act.put, List.setIfInBounds_toArray, List.set_cons_zero, List.set_cons_succ]
    refine take_on (i := 9) (v := ?_) rfl rfl (by kernel_rfl) (by kernel_rfl) (by kernel_rfl) (fun _ _ _ h => h) rfl ?_ hHeld ?_
    rotate_left
    · (intro wq hSq; have q0 := (hSq.cell (p := ⟨p, 0, none⟩) hplt).trans d0; have q1 := (hSq.cell (p := ⟨g, i * 5 + 1, none⟩) hglt).trans c1; have q4 := (hSq.cell (p := ⟨g, i * 5 + 4, none⟩) hglt).trans c4; go_simp <;> first | with_reducible rfl | rfl)
    simp only [Act.put, List.setIfInBounds_toArray, List.set_cons_zero, List.set_cons_succ]
    refine take_on (i := 10) (v := ?_) rfl rfl (by kernel_rfl) (by kernel_rfl) (by kernel_rfl) (fun _ _ _ h => h) rfl ?_ hHeld ?_
    rotate_left
    · (intro wq hSq; have q0 := (hSq.cell (p := ⟨p, 0, none⟩) hplt).trans d0; have q1 := (hSq.cell (p := ⟨g, i * 5 + 1, none⟩) hglt).trans c1; have q4 := (hSq.cell (p := ⟨g, i * 5 + 4, none⟩) hglt).trans c4; go_simp <;> first | with_reducible rfl | rfl)
    simp only [Act.put, List.setIfInBounds_toArray, List.set_cons_zero, List.set_cons_succ]
    refine take_on (i := 11) (v := ?_) rfl rfl (by kernel_rfl) (by kernel_rfl) (by kernel_rfl) (fun _ _ _ h => h) rfl ?_ hHeld ?_
    rotate_left
    · (intro wq hSq; have q0 := (hSq.cell (p := ⟨p, 0, none⟩) hplt).trans d0; have q1 := (hSq.cell (p := ⟨g, i * 5 + 1, none⟩) hglt).trans c1; have q4 := (hSq.cell (p := ⟨g, i * 5 + 4, none⟩) hglt).trans c4; go_simp <;> first | with_reducible rfl | rfl)
    simp only [Act.put, List.setIfInBounds_toArray, List.set_cons_zero, List.set_cons_succ]
    refine take_on (i := 12) (v := ?_) rfl rfl (by kernel_rfl) (by kernel_rfl) (by kernel_rfl) (fun _ _ _ h => h) rfl ?_ hHeld ?_
    rotate_left
    · (intro wq hSq; have q0 := (hSq.cell (p := ⟨p, 0, none⟩) hplt).trans d0; have q1 := (hSq.cell (p := ⟨g, i * 5 + 1, none⟩) hglt).trans c1; have q4 := (hSq.cell (p := ⟨g, i * 5 + 4, none⟩) hglt).trans c4; go_simp <;> first | with_reducible rfl | rfl)
    simp only [Act.put, List.setIfInBounds_toArray, List.set_cons_zero, List.set_cons_succ]
    refine take_on (i := 13) (v := ?_) rfl rfl (by kernel_rfl) (by kernel_rfl) (by kernel_rfl) (fun _ _ _ h => h) rfl ?_ hHeld ?_
    rotate_left
    · (intro wq hSq; have q0 := (hSq.cell (p := ⟨p, 0, none⟩) hplt).trans d0; have q1 := (hSq.cell (p := ⟨g, i * 5 + 1, none⟩) hglt).trans c1; have q4 := (hSq.cell (p := ⟨g, i * 5 + 4, none⟩) hglt).trans c4; go_simp <;> first | with_reducible rfl | rfl)
    simp only [Act.put, List.setIfInBounds_toArray, List.set_cons_zero, List.set_cons_succ]
    refine take_on (i := 14) (v := ?_) rfl rfl (by kernel_rfl) (by kernel_rfl) (by kernel_rfl) (fun _ _ _ h => h) rfl ?_ hHeld ?_
    rotate_left
    · (intro wq hSq; have q0 := (hSq.cell (p := ⟨p, 0, none⟩) hplt).trans d0; have q1 := (hSq.cell (p := ⟨g, i * 5 + 1, none⟩) hglt).trans c1; have q4 := (hSq.cell (p := ⟨g, i * 5 + 4, none⟩) hglt).trans c4; go_simp <;> first | with_reducible rfl | rfl)
    simp only [Act.put, List.setIfInBounds_toArray, List.set_cons_zero, List.set_cons_succ]
    refine take_on (i := 15) (v := ?_) rfl rfl (by kernel_rfl) (by kernel_rfl) (by kernel_rfl) (fun _ _ _ h => h) rfl ?_ hHeld ?_
    rotate_left
    · (intro wq hSq; have q0 := (hSq.cell (p := ⟨p, 0, none⟩) hplt).trans d0; have q1 := (hSq.cell (p := ⟨g, i * 5 + 1, none⟩) hglt).trans c1; have q4 := (hSq.cell (p := ⟨g, i * 5 + 4, none⟩) hglt).trans c4; go_simp <;> first | with_reducible rfl | rfl)
    simp only [Act.put, List.setIfInBounds_toArray, List.set_cons_zero, List.set_cons_succ]
    refine wpAnyH_done (by kernel_rfl) ?_ _
    have hcall := hf _ hHeld
    go_wp2_with fail
    refine hcall.mono ?_
    rintro e w2 ⟨rfl, hm⟩
    obtain ⟨⟨e4, ef⟩, hW⟩ := hfin.out _ _ hHeld hm
    clear hcall
    go_wp2_with fail
    go_ret
    exact ⟨rfl, by simpa using hW⟩
  · have ham : am = false := by simpa using ham
    subst ham
    clear hfd
    go_wp2_with fail
    refine wp_region_held_drew (S := (fun w' => Below w.heap.size w w')) (by kernel_rfl) ?_ (fun hHeld => ?_)
    · exact (Below.refl _ _).drew
    refine take_on (i := 0) (v := ?_) rfl rfl (by kernel_rfl) (by kernel_rfl) (by kernel_rfl) (fun _ _ _ h => h) rfl ?_ hHeld ?_
    rotate_left
    · (intro wq hSq; have q0 := (hSq.cell (p := ⟨p, 0, none⟩) hplt).trans d0; go_simp <;> first | with_reducible rfl | rfl)
    simp only [Act.put, List.setIfInBounds_toArray, List.set_cons_zero, List.set_cons_succ]
    refine take_on (i := 1) (v := ?_) rfl rfl (by kernel_rfl) (by kernel_rfl) (by kernel_rfl) (fun _ _ _ h => h) rfl ?_ hHeld ?_
    rotate_left
    · (intro wq hSq; have q0 := (hSq.cell (p := ⟨p, 0, none⟩) hplt).trans d0; go_simp <;> first | with_reducible rfl | rfl)
    simp only [Act.put, List.setIfInBounds_toArray, List.set_cons_zero, List.set_cons_succ]
    refine take_on (i := 2) (v := ?_) rfl rfl (by kernel_rfl) (by kernel_rfl) (by kernel_rfl) (fun _ _ _ h => h) rfl ?_ hHeld ?_
    rotate_left
    · (intro wq hSq; have q0 := (hSq.cell (p := ⟨p, 0, none⟩) hplt).trans d0; go_simp <;> first | with_reducible rfl | rfl)
    simp only [Act.put, List.setIfInBounds_toArray, List.set_cons_zero, List.set_cons_succ]
    refine take_on (i := 3) (v := ?_) rfl rfl (by kernel_rfl) (by kernel_rfl) (by kernel_rfl) (fun _ _ _ h => h) rfl ?_ hHeld ?_
    rotate_left
    · (intro wq hSq; have q0 := (hSq.cell (p := ⟨p, 0, none⟩) hplt).trans d0; go_simp <;> first | with_reducible rfl | rfl)
    simp only [Act.put, List.setIfInBounds_toArray, List.set_cons_zero, List.set_cons_succ]
    refine take_on (i := 4) (v := ?_) rfl rfl (by kernel_rfl) (by kernel_rfl) (by kernel_rfl) (fun _ _ _ h => h) rfl ?_ hHeld ?_
    rotate_left
    · (intro wq hSq; have q0 := (hSq.cell (p := ⟨p, 0, none⟩) hplt).trans d0; go_simp <;> first | with_reducible rfl | rfl)
    simp only [Act.put, List.setIfInBounds_toArray, List.set_cons_zero, List.set_cons_succ]
    refine take_off (i := 5) rfl rfl (by kernel_rfl) (by kernel_rfl) (by kernel_rfl) (fun _ _ _ h => h) rfl hHeld ?_
    simp only [Act.put, List.setIfInBounds_toArray, List.set_cons_zero, List.set_cons_succ]
    refine take_off (i := 6) rfl rfl (by kernel_rfl) (by kernel_rfl) (by kernel_rfl) (fun _ _ _ h => h) rfl hHeld ?_
    simp only [Act.put, List.setIfInBounds_toArray, List.set_cons_zero, List.set_cons_succ]
    refine take_off (i := 7) rfl rfl (by kernel_rfl) (by kernel_rfl) (by kernel_rfl) (fun _ _ _ h => h) rfl hHeld ?_
    simp only [Act.put, List.setIfInBounds_toArray, List.set_cons_zero, List.set_cons_succ]
    refine take_off (i := 8) rfl rfl (by kernel_rfl) (by kernel_rfl) (by kernel_rfl) (fun _ _ _ h => h) rfl hHeld ?_
    simp only [Act.put, List.setIfInBounds_toArray, List.set_cons_zero, List.set_cons_succ]
    refine take_off (i := 9) rfl rfl (by kernel_rfl) (by kernel_rfl) (by kernel_rfl) (fun _ _ _ h => h) rfl hHeld ?_
    simp only [Act.put, List.setIfInBounds_toArray, List.set_cons_zero, List.set_cons_succ]
    refine take_off (i := 10) rfl rfl (by kernel_rfl) (by kernel_rfl) (by kernel_rfl) (fun _ _ _ h => h) rfl hHeld ?_
    simp only [Act.put, List.setIfInBounds_toArray, List.set_cons_zero, List.set_cons_succ]
    refine take_off (i := 11) rfl rfl (by kernel_rfl) (by kernel_rfl) (by kernel_rfl) (fun _ _ _ h => h) rfl hHeld ?_
    simp only [Act.put, List.setIfInBounds_toArray, List.set_cons_zero, List.set_cons_succ]
    refine take_off (i := 12) rfl rfl (by kernel_rfl) (by kernel_rfl) (by kernel_rfl) (fun _ _ _ h => h) rfl hHeld ?_
    simp only [Act.put, List.setIfInBounds_toArray, List.set_cons_zero, List.set_cons_succ]
    refine take_off (i := 13) rfl rfl (by kernel_rfl) (by kernel_rfl) (by kernel_rfl) (fun _ _ _ h => h) rfl hHeld ?_
    simp only [Act.put, List.setIfInBounds_toArray, List.set_cons_zero, List.set_cons_succ]
    refine take_off (i := 14) rfl rfl (by kernel_rfl) (by kernel_rfl) (by kernel_rfl) (fun _ _ _ h => h) rfl hHeld ?_
    simp only [Act.put, List.setIfInBounds_toArray, List.set_cons_zero, List.set_cons_succ]
    refine take_on (i := 15) (v := ?_) rfl rfl (by kernel_rfl) (by kernel_rfl) (by kernel_rfl) (fun _ _ _ h => h) rfl ?_ hHeld ?_
    rotate_left
    · (intro wq hSq; have q0 := (hSq.cell (p := ⟨p, 0, none⟩) hplt).trans d0; go_simp <;> first | with_reducible rfl | rfl)
    simp only [Act.put, List.setIfInBounds_toArray, List.set_cons_zero, List.set_cons_succ]
    refine wpAnyH_done (by kernel_rfl) ?_ _
    have hcall := hf _ hHeld
    go_wp2_with fail
    refine hcall.mono ?_
    rintro e w2 ⟨rfl, hm⟩
    obtain ⟨⟨e4, ef⟩, hW⟩ := hfin.out _ _ hHeld hm
    clear hcall
    go_wp2_with fail
    go_ret
    exact ⟨rfl, by simpa using hW⟩

set_option maxRecDepth 100000 in
set_option maxHeartbeats 1600000 in
theorem operate_trim (h : Dk w F p am n s g C q v) (i : Nat) (hi : i < n) (x : Value) (hd : down am (s i) = false) (hcb : (s i).c ≤ 4611686018427387904) (B' : Nat) (bs' : List Nat) (k' : Nat) (hk : k' ≤ bs'.length)
    (hf : ∀ w1, Below w.heap.size w w1 → Calls Tryz.prog 86 #[.pointer (some ⟨g, i * 5, none⟩), x] w1 fun e w2 => e = .returned (.int .i64 0) ∧ Moved w1 (q i) 0 (v i) B' bs' k' w2) :
    Calls Tryz.prog 68 #[.pointer (some ⟨p, 0, none⟩), .int .i64 (i : Int), .func (.func 86) #[] #[x]] w fun e w' => Opd w F p am n (upd s i { s i with B := B', bs := bs', k := k', c := (s i).c + 1 }) 0 e w' := by
  have hp := part_ok h i hi
  obtain ⟨c0, c1, c2, c3, c4, _⟩ := h.at_ hi
  obtain ⟨d0, d1, _⟩ := h.cells
  have hplt := h.plt
  have hglt := h.glt
  have hgF : F g := h.foot g (.inr (.inl rfl))
  have hfd : am = false ∨ ¬ (s i).fd ≤ ((s i).c : Int) := by
    unfold down at hd
    cases am with
    | false => exact .inl rfl
    | true => right; simpa using hd
  clear hd
  have hfin : ∀ w1 w2, Below w.heap.size w w1 → Moved w1 (q i) 0 (v i) B' bs' k' w2 → (w2.cell? ⟨g, i * 5 + 4, none⟩ = some (.int .i64 ((s i).c : Int)) ∧ w2.frozen? ⟨g, i * 5 + 4, none⟩ = false) ∧ Went w F p am n (upd s i { s i with B := B', bs := bs', k := k', c := (s i).c + 1 }) (w2.setCell ⟨g, i * 5 + 4, none⟩ (.int .i64 (((s i).c + 1 : Nat) : Int))) := by
    intro w1 w2 hb hm
    obtain ⟨⟨v', h2⟩, hc2⟩ := (h.below hb).moved hi hm hk
    obtain ⟨_, _, _, _, e4, ef⟩ := h2.at_ hi
    rw [upd_at] at e4
    obtain ⟨C', h3⟩ := h2.count hi ((s i).c + 1)
    rw [upd_upd, upd_at] at h3
    have hs1 := hb.size
    have hs2 := hc2.size
    refine ⟨⟨e4, ef _⟩, ⟨g, C', q, v', h3.mono (fun j hj => ?_) (fun j hj => ?_)⟩, ((Chg.new hb).trans hc2 (fun _ _ x => x)).setCell _ _ (fun _ => hgF)⟩
    · rcases hj with hj | hj
      · exact .inl hj
      · exact .inr (by simp; omega)
    · rcases hj with hj | hj
      · have := h.lt j hj; simp; omega
      · exact hj.2
  have hwc : IntKind.i64.wrap (((s i).c : Int) + 1) = (((s i).c + 1 : Nat) : Int) := by rw [IntKind.wrap_i64]; omega
  obtain ⟨S', hS'⟩ : ∃ S', S' = upd s i { s i with B := B', bs := bs', k := k', c := (s i).c + 1 } := ⟨_, rfl⟩
  rw [← hS'] at hfin ⊢
  obtain ⟨fd, hfd'⟩ : ∃ x, x = (s i).fd := ⟨_, rfl⟩
  rw [← hfd'] at c1 hfd
  obtain ⟨cc, hcc⟩ : ∃ x, x = (s i).c := ⟨_, rfl⟩
  rw [← hcc] at c4 hfd hfin hwc hcb
  clear hfd' hcc hS' hk
  have hH := hide_it h
  clear h
  replace hfin := hide_it hfin
  go_enter Tryz.func68, Tryz.ntmps68
  go_wp2_with fail
  refine hp.mono ?_
  rintro e w1 ⟨rfl, hw⟩
  have hw2 := hw.symm
  subst hw2
  clear hw hp
  by_cases ham : am = true
  · subst ham
    have hfd2 : (cc : Int) < fd := by simpa using hfd
    clear hfd
    go_wp2_with fail
    refine wp_region_held_drew (S := (fun w' => Below w.heap.size w w')) (by kernel_rfl) ?_ (fun hHeld => ?_)
    · exact (Below.refl _ _).drew
    refine take_on (i := 0) (v := ?_) rfl rfl (by kernel_rfl) (by kernel_rfl) (by kernel_rfl) (fun _ _ _ h => h) rfl ?_ hHeld ?_
    rotate_left
    · (intro wq hSq; have q0 := (hSq.cell (p := ⟨p, 0, none⟩) hplt).trans d0; have q1 := (hSq.cell (p := ⟨g, i * 5 + 1, none⟩) hglt).trans c1; have q4 := (hSq.cell (p := ⟨g, i * 5 + 4, none⟩) hglt).trans c4; go_simp <;> first | with_reducible rfl | rfl)
    simp only [Act.put, List.setIfInBounds_toArray, List.set_cons_zero, List.set_cons_succ]
    refine take_on (i := 1) (v := ?_) rfl rfl (by kernel_rfl) (by kernel_rfl) (by kernel_rfl) (fun _ _ _ h => h) rfl ?_ hHeld ?_
    rotate_left
    · (intro wq hSq; have q0 := (hSq.cell (p := ⟨p, 0, none⟩) hplt).trans d0; have q1 := (hSq.cell (p := ⟨g, i * 5 + 1, none⟩) hglt).trans c1; have q4 := (hSq.cell (p := ⟨g, i * 5 + 4, none⟩) hglt).trans c4; go_simp <;> first | with_reducible rfl | rfl)
    simp only [Act.put, List.setIfInBounds_toArray, List.set_cons_zero, List.set_cons_succ]
    refine take_on (i := 2) (v := ?_) rfl rfl (by kernel_rfl) (by kernel_rfl) (by kernel_rfl) (fun _ _ _ h => h) rfl ?_ hHeld ?_
    rotate_left
    · (intro wq hSq; have q0 := (hSq.cell (p := ⟨p, 0, none⟩) hplt).trans d0; have q1 := (hSq.cell (p := ⟨g, i * 5 + 1, none⟩) hglt).trans c1; have q4 := (hSq.cell (p := ⟨g, i * 5 + 4, none⟩) hglt).trans c4; go_simp <;> first | with_reducible rfl | rfl)
    simp only [Act.put, List.setIfInBounds_toArray, List.set_cons_zero, List.set_cons_succ]
    refine take_on (i := 3) (v := ?_) rfl rfl (by kernel_rfl) (by kernel_rfl) (by kernel_rfl) (fun _ _ _ h => h) rfl ?_ hHeld ?_
    rotate_left
    · (intro wq hSq; have q0 := (hSq.cell (p := ⟨p, 0, none⟩) hplt).trans d0; have q1 := (hSq.cell (p := ⟨g, i * 5 + 1, none⟩) hglt).trans c1; have q4 := (hSq.cell (p := ⟨g, i * 5 + 4, none⟩) hglt).trans c4; go_simp <;> first | with_reducible rfl | rfl)
    simp only [Act.put, List.setIfInBounds_toArray, List.set_cons_zero, List.set_cons_succ]
    refine take_on (i := 4) (v := ?_) rfl rfl (by kernel_rfl) (by kernel_rfl) (by kernel_rfl) (fun _ _ _ h => h) rfl ?_ hHeld ?_
    rotate_left
    · (intro wq hSq; have q0 := (hSq.cell (p := ⟨p, 0, none⟩) hplt).trans d0; have q1 := (hSq.cell (p := ⟨g, i * 5 + 1, none⟩) hglt).trans c1; have q4 := (hSq.cell (p := ⟨g, i * 5 + 4, none⟩) hglt).trans c4; go_simp <;> first | with_reducible rfl | rfl)
    simp only [Act.put, List.setIfInBounds_toArray, List.set_cons_zero, List.set_cons_succ]
    refine take_on (i := 5) (v := ?_) rfl rfl (by kernel_rfl) (by kernel_rfl) (by kernel_rfl) (fun _ _ _ h => h) rfl ?_ hHeld ?_
    rotate_left
    · (intro wq hSq; have q0 := (hSq.cell (p := ⟨p, 0, none⟩) hplt).trans d0; have q1 := (hSq.cell (p := ⟨g, i * 5 + 1, none⟩) hglt).trans c1; have q4 := (hSq.cell (p := ⟨g, i * 5 + 4, none⟩) hglt).trans c4; go_simp <;> first | with_reducible rfl | rfl)
    simp only [Act.put, List.setIfInBounds_toArray, List.set_cons_zero, List.set_cons_succ]
    refine take_on (i := 6) (v := ?_) rfl rfl (by kernel_rfl) (by kernel_rfl) (by kernel_rfl) (fun _ _ _ h => h) rfl ?_ hHeld ?_
    rotate_left
    · (intro wq hSq; have q0 := (hSq.cell (p := ⟨p, 0, none⟩) hplt).trans d0; have q1 := (hSq.cell (p := ⟨g, i * 5 + 1, none⟩) hglt).trans c1; have q4 := (hSq.cell (p := ⟨g, i * 5 + 4, none⟩) hglt).trans c4; go_simp <;> first | with_reducible rfl | rfl)
    simp only [Act.put, List.setIfInBounds_toArray, List.set_cons_zero, List.set_cons_succ]
    refine take_on (i := 7) (v := ?_) rfl rfl (by kernel_rfl) (by kernel_rfl) (by kernel_rfl) (fun _ _ _ h => h) rfl ?_ hHeld ?_
    rotate_left
    · (intro wq hSq; have q0 := (hSq.cell (p := ⟨p, 0, none⟩) hplt).trans d0; have q1 := (hSq.cell (p := ⟨g, i * 5 + 1, none⟩) hglt).trans c1; have q4 := (hSq.cell (p := ⟨g, i * 5 + 4, none⟩) hglt).trans c4; go_simp <;> first | with_reducible rfl | rfl)
    simp only [Act.put, List.setIfInBounds_toArray, List.set_cons_zero, List.set_cons_succ]
    refine take_on (i := 8) (v := ?_) rfl rfl (by kernel_rfl) (by kernel_rfl) (by kernel_rfl) (fun _ _ _ h => h) rfl ?_ hHeld ?_
    rotate_left
    · (intro wq hSq; have q0 := (hSq.cell (p := ⟨p, 0, none⟩) hplt).trans d0; have q1 := (hSq.cell (p := ⟨g, i * 5 + 1, none⟩) hglt).trans c1; have q4 := (hSq.cell (p := ⟨g, i * 5 + 4, none⟩) hglt).trans c4; go_simp <;> first | with_reducible rfl | rfl)
    simp only [Act.put, List.setIfInBounds_toArray, List.set_cons_zero, List.set_cons_succ]
    refine take_on (i := 9) (v := ?_) rfl rfl (by kernel_rfl) (by kernel_rfl) (by kernel_rfl) (fun _ _ _ h => h) rfl ?_ hHeld ?_
    rotate_left
    · (intro wq hSq; have q0 := (hSq.cell (p := ⟨p, 0, none⟩) hplt).trans d0; have q1 := (hSq.cell (p := ⟨g, i * 5 + 1, none⟩) hglt).trans c1; have q4 := (hSq.cell (p := ⟨g, i * 5 + 4, none⟩) hglt).trans c4; go_simp <;> first | with_reducible rfl | rfl)
    simp only [Act.put, List.setIfInBounds_toArray, List.set_cons_zero, List.set_cons_succ]
    refine take_on (i := 10) (v := ?_) rfl rfl (by kernel_rfl) (by kernel_rfl) (by kernel_rfl) (fun _ _ _ h => h) rfl ?_ hHeld ?_
    rotate_left
    · (intro wq hSq; have q0 := (hSq.cell (p := ⟨p, 0, none⟩) hplt).trans d0; have q1 := (hSq.cell (p := ⟨g, i * 5 + 1, none⟩) hglt).trans c1; have q4 := (hSq.cell (p := ⟨g, i * 5 + 4, none⟩) hglt).trans c4; go_simp <;> first | with_reducible rfl | rfl)
    simp only [Act.put, List.setIfInBounds_toArray, List.set_cons_zero, List.set_cons_succ]
    refine take_on (i := 11) (v := ?_) rfl rfl (by kernel_rfl) (by kernel_rfl) (by kernel_rfl) (fun _ _ _ h => h) rfl ?_ hHeld ?_
    rotate_left
    · (intro wq hSq; have q0 := (hSq.cell (p := ⟨p, 0, none⟩) hplt).trans d0; have q1 := (hSq.cell (p := ⟨g, i * 5 + 1, none⟩) hglt).trans c1; have q4 := (hSq.cell (p := ⟨g, i * 5 + 4, none⟩) hglt).trans c4; go_simp <;> first | with_reducible rfl | rfl)
    simp only [Act.put, List.setIfInBounds_toArray, List.set_cons_zero, List.set_cons_succ]
    refine take_on (i := 12) (v := ?_) rfl rfl (by kernel_rfl) (by kernel_rfl) (by kernel_rfl) (fun _ _ _ h => h) rfl ?_ hHeld ?_
    rotate_left
    · (intro wq hSq; have q0 := (hSq.cell (p := ⟨p, 0, none⟩) hplt).trans d0; have q1 := (hSq.cell (p := ⟨g, i * 5 + 1, none⟩) hglt).trans c1; have q4 := (hSq.cell (p := ⟨g, i * 5 + 4, none⟩) hglt).trans c4; go_simp <;> first | with_reducible rfl | rfl)
    simp only [Act.put, List.setIfInBounds_toArray, List.set_cons_zero, List.set_cons_succ]
    refine take_on (i := 13) (v := ?_) rfl rfl (by kernel_rfl) (by kernel_rfl) (by kernel_rfl) (fun _ _ _ h => h) rfl ?_ hHeld ?_
    rotate_left
    · (intro wq hSq; have q0 := (hSq.cell (p := ⟨p, 0, none⟩) hplt).trans d0; have q1 := (hSq.cell (p := ⟨g, i * 5 + 1, none⟩) hglt).trans c1; have q4 := (hSq.cell (p := ⟨g, i * 5 + 4, none⟩) hglt).trans c4; go_simp <;> first | with_reducible rfl | rfl)
    simp only [Act.put, List.setIfInBounds_toArray, List.set_cons_zero, List.set_cons_succ]
    refine take_on (i := 14) (v := ?_) rfl rfl (by kernel_rfl) (by kernel_rfl) (by kernel_rfl) (fun _ _ _ h => h) rfl ?_ hHeld ?_
    rotate_left
    · (intro wq hSq; have q0 := (hSq.cell (p := ⟨p, 0, none⟩) hplt).trans d0; have q1 := (hSq.cell (p := ⟨g, i * 5 + 1, none⟩) hglt).trans c1; have q4 := (hSq.cell (p := ⟨g, i * 5 + 4, none⟩) hglt).trans c4; go_simp <;> first | with_reducible rfl | rfl)
    simp only [Act.put, List.setIfInBounds_toArray, List.set_cons_zero, List.set_cons_succ]
    refine take_on (i := 15) (v := ?_) rfl rfl (by kernel_rfl) (by kernel_rfl) (by kernel_rfl) (fun _ _ _ h => h) rfl ?_ hHeld ?_
    rotate_left
    · (intro wq hSq; have q0 := (hSq.cell (p := ⟨p, 0, none⟩) hplt).trans d0; have q1 := (hSq.cell (p := ⟨g, i * 5 + 1, none⟩) hglt).trans c1; have q4 := (hSq.cell (p := ⟨g, i * 5 + 4, none⟩) hglt).trans c4; go_simp <;> first | with_reducible rfl | rfl)
    simp only [Act.put, List.setIfInBounds_toArray, List.set_cons_zero, List.set_cons_succ]
    refine wpAnyH_done (by kernel_rfl) ?_ _
    have hcall := hf _ hHeld
    go_wp2_with fail
    refine hcall.mono ?_
    rintro e w2 ⟨rfl, hm⟩
    obtain ⟨⟨e4, ef⟩, hW⟩ := hfin.out _ _ hHeld hm
    clear hcall
    go_wp2_with fail
    go_ret
    exact ⟨rfl, by simpa using hW⟩
  · have ham : am = false := by simpa using ham
    subst ham
    clear hfd
    go_wp2_with fail
    refine wp_region_held_drew (S := (fun w' => Below w.heap.size w w')) (by kernel_rfl) ?_ (fun hHeld => ?_)
    · exact (Below.refl _ _).drew
    refine take_on (i := 0) (v := ?_) rfl rfl (by kernel_rfl) (by kernel_rfl) (by kernel_rfl) (fun _ _ _ h => h) rfl ?_ hHeld ?_
    rotate_left
    · (intro wq hSq; have q0 := (hSq.cell (p := ⟨p, 0, none⟩) hplt).trans d0; go_simp <;> first | with_reducible rfl | rfl)
    simp only [Act.put, List.setIfInBounds_toArray, List.set_cons_zero, List.set_cons_succ]
    refine take_on (i := 1) (v := ?_) rfl rfl (by kernel_rfl) (by kernel_rfl) (by kernel_rfl) (fun _ _ _ h => h) rfl ?_ hHeld ?_
    rotate_left
    · (intro wq hSq; have q0 := (hSq.cell (p := ⟨p, 0, none⟩) hplt).trans d0; go_simp <;> first | with_reducible rfl | rfl)
    simp only [Act.put, List.setIfInBounds_toArray, List.set_cons_zero, List.set_cons_succ]
    refine take_on (i := 2) (v := ?_) rfl rfl (by kernel_rfl) (by kernel_rfl) (by kernel_rfl) (fun _ _ _ h => h) rfl ?_ hHeld ?_
    rotate_left
    · (intro wq hSq; have q0 := (hSq.cell (p := ⟨p, 0, none⟩) hplt).trans d0; go_simp <;> first | with_reducible rfl | rfl)
    simp only [Act.put, List.setIfInBounds_toArray, List.set_cons_zero, List.set_cons_succ]
    refine take_on (i := 3) (v := ?_) rfl rfl (by kernel_rfl) (by kernel_rfl) (by kernel_rfl) (fun _ _ _ h => h) rfl ?_ hHeld ?_
    rotate_left
    · (intro wq hSq; have q0 := (hSq.cell (p := ⟨p, 0, none⟩) hplt).trans d0; go_simp <;> first | with_reducible rfl | rfl)
    simp only [Act.put, List.setIfInBounds_toArray, List.set_cons_zero, List.set_cons_succ]
    refine take_on (i := 4) (v := ?_) rfl rfl (by kernel_rfl) (by kernel_rfl) (by kernel_rfl) (fun _ _ _ h => h) rfl ?_ hHeld ?_
    rotate_left
    · (intro wq hSq; have q0 := (hSq.cell (p := ⟨p, 0, none⟩) hplt).trans d0; go_simp <;> first | with_reducible rfl | rfl)
    simp only [Act.put, List.setIfInBounds_toArray, List.set_cons_zero, List.set_cons_succ]
    refine take_off (i := 5) rfl rfl (by kernel_rfl) (by kernel_rfl) (by kernel_rfl) (fun _ _ _ h => h) rfl hHeld ?_
    simp only [Act.put, List.setIfInBounds_toArray, List.set_cons_zero, List.set_cons_succ]
    refine take_off (i := 6) rfl rfl (by kernel_rfl) (by kernel_rfl) (by kernel_rfl) (fun _ _ _ h => h) rfl hHeld ?_
    simp only [Act.put, List.setIfInBounds_toArray, List.set_cons_zero, List.set_cons_succ]
    refine take_off (i := 7) rfl rfl (by kernel_rfl) (by kernel_rfl) (by kernel_rfl) (fun _ _ _ h => h) rfl hHeld ?_
    simp only [Act.put, List.setIfInBounds_toArray, List.set_cons_zero, List.set_cons_succ]
    refine take_off (i := 8) rfl rfl (by kernel_rfl) (by kernel_rfl) (by kernel_rfl) (fun _ _ _ h => h) rfl hHeld ?_
    simp only [Act.put, List.setIfInBounds_toArray, List.set_cons_zero, List.set_cons_succ]
    refine take_off (i := 9) rfl rfl (by kernel_rfl) (by kernel_rfl) (by kernel_rfl) (fun _ _ _ h => h) rfl hHeld ?_
    simp only [Act.put, List.setIfInBounds_toArray, List.set_cons_zero, List.set_cons_succ]
    refine take_off (i := 10) rfl rfl (by kernel_rfl) (by kernel_rfl) (by kernel_rfl) (fun _ _ _ h => h) rfl hHeld ?_
    simp only [Act.put, List.setIfInBounds_toArray, List.set_cons_zero, List.set_cons_succ]
    refine take_off (i := 11) rfl rfl (by kernel_rfl) (by kernel_rfl) (by kernel_rfl) (fun _ _ _ h => h) rfl hHeld ?_
    simp only [Act.put, List.setIfInBounds_toArray, List.set_cons_zero, List.set_cons_succ]
    refine take_off (i := 12) rfl rfl (by kernel_rfl) (by kernel_rfl) (by kernel_rfl) (fun _ _ _ h => h) rfl hHeld ?_
    simp only [Act.put, List.setIfInBounds_toArray, List.set_cons_zero, List.set_cons_succ]
    refine take_off (i := 13) rfl rfl (by kernel_rfl) (by kernel_rfl) (by kernel_rfl) (fun _ _ _ h => h) rfl hHeld ?_
    simp only [Act.put, List.setIfInBounds_toArray, List.set_cons_zero, List.set_cons_succ]
    refine take_off (i := 14) rfl rfl (by kernel_rfl) (by kernel_rfl) (by kernel_rfl) (fun _ _ _ h => h) rfl hHeld ?_
    simp only [Act.put, List.setIfInBounds_toArray, List.set_cons_zero, List.set_cons_succ]
    refine take_on (i := 15) (v := ?_) rfl rfl (by kernel_rfl) (by kernel_rfl) (by kernel_rfl) (fun _ _ _ h => h) rfl ?_ hHeld ?_
    rotate_left
    · (intro wq hSq; have q0 := (hSq.cell (p := ⟨p, 0, none⟩) hplt).trans d0; go_simp <;> first | with_reducible rfl | rfl)
    simp only [Act.put, List.setIfInBounds_toArray, List.set_cons_zero, List.set_cons_succ]
    refine wpAnyH_done (by kernel_rfl) ?_ _
    have hcall := hf _ hHeld
    go_wp2_with fail
    refine hcall.mono ?_
    rintro e w2 ⟨rfl, hm⟩
    obtain ⟨⟨e4, ef⟩, hW⟩ := hfin.out _ _ hHeld hm
    clear hcall
    go_wp2_with fail
    go_ret
    exact ⟨rfl, by simpa using hW⟩
end

end Go.Proofs.YtkacfpmninmjkaaGreat

namespace Go.Proofs.YtkacfpmninmjkaaGreat
open Go.RowKit

section
variable {w : World} {F : Nat → Prop} {p : Nat} {am : Bool} {n : Nat} {s : Nat → Pt} {g : Nat} {C : Array Value} {q : Nat → Nat} {v : Nat → Value}

set_option maxRecDepth 100000 in
set_option maxHeartbeats 1600000 in
theorem operate_cut_no (h : Dk w F p am n s g C q v) (i : Nat) (hi : i < n) (x : Value) (hd : down am (s i) = false) 
    (hf : ∀ w1, Below w.heap.size w w1 → Calls Tryz.prog 88 #[.pointer (some ⟨g, i * 5, none⟩), x] w1 fun e w2 => e = .returned (.int .i64 70) ∧ Moved w1 (q i) 0 (v i) (s i).B (s i).bs (s i).k w2) :
    Calls Tryz.prog 68 #[.pointer (some ⟨p, 0, none⟩), .int .i64 (i : Int), .func (.func 88) #[] #[x]] w fun e w' => Opd w F p am n s 70 e w' := by
  have hp := part_ok h i hi
  obtain ⟨c0, c1, c2, c3, c4, _⟩ := h.at_ hi
  obtain ⟨d0, d1, _⟩ := h.cells
  have hplt := h.plt
  have hglt := h.glt
  have hgF : F g := h.foot g (.inr (.inl rfl))
  have hfd : am = false ∨ ¬ (s i).fd ≤ ((s i).c : Int) := by
    unfold down at hd
    cases am with
    | false => exact .inl rfl
    | true => right; simpa using hd
  clear hd
  have hfin : ∀ w1 w2, Below w.heap.size w w1 → Moved w1 (q i) 0 (v i) (s i).B (s i).bs (s i).k w2 → Went w F p am n s w2 := by
    intro w1 w2 hb hm
    obtain ⟨⟨v', h2⟩, hc2⟩ := (h.below hb).moved hi hm (h.le i hi)
    rw [upd_self] at h2
    have hs1 := hb.size
    have hs2 := hc2.size
    refine ⟨⟨g, C, q, v', h2.mono (fun j hj => ?_) (fun j hj => ?_)⟩, (Chg.new hb).trans hc2 (fun _ _ x => x)⟩
    · rcases hj with hj | hj
      · exact .inl hj
      · exact .inr (by omega)
    · rcases hj with hj | hj
      · have := h.lt j hj; omega
      · exact hj.2
  obtain ⟨fd, hfd'⟩ : ∃ x, x = (s i).fd := ⟨_, rfl⟩
  rw [← hfd'] at c1 hfd
  obtain ⟨cc, hcc⟩ : ∃ x, x = (s i).c := ⟨_, rfl⟩
  rw [← hcc] at c4 hfd
  clear hfd' hcc
  have hH := hide_it h
  clear h
  replace hfin := hide_it hfin
  go_enter Tryz.func68, Tryz.ntmps68
  go_wp2_with fail
  refine hp.mono ?_
  rintro e w1 ⟨rfl, hw⟩
  have hw2 := hw.symm
  subst hw2
  clear hw hp
  by_cases ham : am = true
  · subst ham
    have hfd2 : (cc : Int) < fd := by simpa using hfd
    clear hfd
    go_wp2_with fail
    refine wp_region_held_drew (S := (fun w' => Below w.heap.size w w')) (by kernel_rfl) ?_ (fun hHeld => ?_)
    · exact (Below.refl _ _).drew
    refine take_on (i := 0) (v := ?_) rfl rfl (by kernel_rfl) (by kernel_rfl) (by kernel_rfl) (fun _ _ _ h => h) rfl ?_ hHeld ?_
    rotate_left
    · (intro wq hSq; have q0 := (hSq.cell (p := ⟨p, 0, none⟩) hplt).trans d0; have q1 := (hSq.cell (p := ⟨g, i * 5 + 1, none⟩) hglt).trans c1; have q4 := (hSq.cell (p := ⟨g, i * 5 + 4, none⟩) hglt).trans c4; go_simp <;> first | with_reducible rfl | rfl)
    simp only [Act.put, List.setIfInBounds_toArray, List.set_cons_zero, List.set_cons_succ]
    refine take_on (i := 1) (v := ?_) rfl rfl (by kernel_rfl) (by kernel_rfl) (by kernel_rfl) (fun _ _ _ h => h) rfl ?_ hHeld ?_
    rotate_left
    · (intro wq hSq; have q0 := (hSq.cell (p := ⟨p, 0, none⟩) hplt).trans d0; have q1 := (hSq.cell (p := ⟨g, i * 5 + 1, none⟩) hglt).trans c1; have q4 := (hSq.cell (p := ⟨g, i * 5 + 4, none⟩) hglt).trans c4; go_simp <;> first | with_reducible rfl | rfl)
    simp only [Act.put, List.setIfInBounds_toArray, List.set_cons_zero, List.set_cons_succ]
    refine take_on (i := 2) (v := ?_) rfl rfl (by kernel_rfl) (by kernel_rfl) (by kernel_rfl) (fun _ _ _ h => h) rfl ?_ hHeld ?_
    rotate_left
    · (intro wq hSq; have q0 := (hSq.cell (p := ⟨p, 0, none⟩) hplt).trans d0; have q1 := (hSq.cell (p := ⟨g, i * 5 + 1, none⟩) hglt).trans c1; have q4 := (hSq.cell (p := ⟨g, i * 5 + 4, none⟩) hglt).trans c4; go_simp <;> first | with_reducible rfl | rfl)
    simp only [Act.put, List.setIfInBounds_toArray, List.set_cons_zero, List.set_cons_succ]
    refine take_on (i := 3) (v := ?_) rfl rfl (by kernel_rfl) (by kernel_rfl) (by kernel_rfl) (fun _ _ _ h => h) rfl ?_ hHeld ?_
    rotate_left
    · (intro wq hSq; have q0 := (hSq.cell (p := ⟨p, 0, none⟩) hplt).trans d0; have q1 := (hSq.cell (p := ⟨g, i * 5 + 1, none⟩) hglt).trans c1; have q4 := (hSq.cell (p := ⟨g, i * 5 + 4, none⟩) hglt).trans c4; go_simp <;> first | with_reducible rfl | rfl)
    simp only [Act.put, List.setIfInBounds_toArray, List.set_cons_zero, List.set_cons_succ]
    refine take_on (i := 4) (v := ?_) rfl rfl (by kernel_rfl) (by kernel_rfl) (by kernel_rfl) (fun _ _ _ h => h) rfl ?_ hHeld ?_
    rotate_left
    · (intro wq hSq; have q0 := (hSq.cell (p := ⟨p, 0, none⟩) hplt).trans d0; have q1 := (hSq.cell (p := ⟨g, i * 5 + 1, none⟩) hglt).trans c1; have q4 := (hSq.cell (p := ⟨g, i * 5 + 4, none⟩) hglt).trans c4; go_simp <;> first | with_reducible rfl | rfl)
    simp only [Act.put, List.setIfInBounds_toArray, List.set_cons_zero, List.set_cons_succ]
    refine take_on (i := 5) (v := ?_) rfl rfl (by kernel_rfl) (by kernel_rfl) (by kernel_rfl) (fun _ _ _ h => h) rfl ?_ hHeld ?_
    rotate_left
    · (intro wq hSq; have q0 := (hSq.cell (p := ⟨p, 0, none⟩) hplt).trans d0; have q1 := (hSq.cell (p := ⟨g, i * 5 + 1, none⟩) hglt).trans c1; have q4 := (hSq.cell (p := ⟨g, i * 5 + 4, none⟩) hglt).trans c4; go_simp <;> first | with_reducible rfl | rfl)
    simp only [Act.put, List.setIfInBounds_toArray, List.set_cons_zero, List.set_cons_succ]
    refine take_on (i := 6) (v := ?_) rfl rfl (by kernel_rfl) (by kernel_rfl) (by kernel_rfl) (fun _ _ _ h => h) rfl ?_ hHeld ?_
    rotate_left
    · (intro wq hSq; have q0 := (hSq.cell (p := ⟨p, 0, none⟩) hplt).trans d0; have q1 := (hSq.cell (p := ⟨g, i * 5 + 1, none⟩) hglt).trans c1; have q4 := (hSq.cell (p := ⟨g, i * 5 + 4, none⟩) hglt).trans c4; go_simp <;> first | with_reducible rfl | rfl)
    simp only [Act.put, List.setIfInBounds_toArray, List.set_cons_zero, List.set_cons_succ]
    refine take_on (i := 7) (v := ?_) rfl rfl (by kernel_rfl) (by kernel_rfl) (by kernel_rfl) (fun _ _ _ h => h) rfl ?_ hHeld ?_
    rotate_left
    · (intro wq hSq; have q0 := (hSq.cell (p := ⟨p, 0, none⟩) hplt).trans d0; have q1 := (hSq.cell (p := ⟨g, i * 5 + 1, none⟩) hglt).trans c1; have q4 := (hSq.cell (p := ⟨g, i * 5 + 4, none⟩) hglt).trans c4; go_simp <;> first | with_reducible rfl | rfl)
    simp only [Act.put, List.setIfInBounds_toArray, List.set_cons_zero, List.set_cons_succ]
    refine take_on (i := 8) (v := ?_) rfl rfl (by kernel_rfl) (by kernel_rfl) (by kernel_rfl) (fun _ _ _ h => h) rfl ?_ hHeld ?_
    rotate_left
    · (intro wq hSq; have q0 := (hSq.cell (p := ⟨p, 0, none⟩) hplt).trans d0; have q1 := (hSq.cell (p := ⟨g, i * 5 + 1, none⟩) hglt).trans c1; have q4 := (hSq.cell (p := ⟨g, i * 5 + 4, none⟩) hglt).trans c4; go_simp <;> first | with_reducible rfl | rfl)
    simp only [Act.put, List.setIfInBounds_toArray, List.set_cons_zero, List.set_cons_succ]
    refine take_on (i := 9) (v := ?_) rfl rfl (by kernel_rfl) (by kernel_rfl) (by kernel_rfl) (fun _ _ _ h => h) rfl ?_ hHeld ?_
    rotate_left
    · (intro wq hSq; have q0 := (hSq.cell (p := ⟨p, 0, none⟩) hplt).trans d0; have q1 := (hSq.cell (p := ⟨g, i * 5 + 1, none⟩) hglt).trans c1; have q4 := (hSq.cell (p := ⟨g, i * 5 + 4, none⟩) hglt).trans c4; go_simp <;> first | with_reducible rfl | rfl)
    simp only [Act.put, List.setIfInBounds_toArray, List.set_cons_zero, List.set_cons_succ]
    refine take_on (i := 10) (v := ?_) rfl rfl (by kernel_rfl) (by kernel_rfl) (by kernel_rfl) (fun _ _ _ h => h) rfl ?_ hHeld ?_
    rotate_left
    · (intro wq hSq; have q0 := (hSq.cell (p := ⟨p, 0, none⟩) hplt).trans d0; have q1 := (hSq.cell (p := ⟨g, i * 5 + 1, none⟩) hglt).trans c1; have q4 := (hSq.cell (p := ⟨g, i * 5 + 4, none⟩) hglt).trans c4; go_simp <;> first | with_reducible rfl | rfl)
    simp only [Act.put, List.setIfInBounds_toArray, List.set_cons_zero, List.set_cons_succ]
    refine take_on (i := 11) (v := ?_) rfl rfl (by kernel_rfl) (by kernel_rfl) (by kernel_rfl) (fun _ _ _ h => h) rfl ?_ hHeld ?_
    rotate_left
    · (intro wq hSq; have q0 := (hSq.cell (p := ⟨p, 0, none⟩) hplt).trans d0; have q1 := (hSq.cell (p := ⟨g, i * 5 + 1, none⟩) hglt).trans c1; have q4 := (hSq.cell (p := ⟨g, i * 5 + 4, none⟩) hglt).trans c4; go_simp <;> first | with_reducible rfl | rfl)
    simp only [Act.put, List.setIfInBounds_toArray, List.set_cons_zero, List.set_cons_succ]
    refine take_on (i := 12) (v := ?_) rfl rfl (by kernel_rfl) (by kernel_rfl) (by kernel_rfl) (fun _ _ _ h => h) rfl ?_ hHeld ?_
    rotate_left
    · (intro wq hSq; have q0 := (hSq.cell (p := ⟨p, 0, none⟩) hplt).trans d0; have q1 := (hSq.cell (p := ⟨g, i * 5 + 1, none⟩) hglt).trans c1; have q4 := (hSq.cell (p := ⟨g, i * 5 + 4, none⟩) hglt).trans c4; go_simp <;> first | with_reducible rfl | rfl)
    simp only [Act.put, List.setIfInBounds_toArray, List.set_cons_zero, List.set_cons_succ]
    refine take_on (i := 13) (v := ?_) rfl rfl (by kernel_rfl) (by kernel_rfl) (by kernel_rfl) (fun _ _ _ h => h) rfl ?_ hHeld ?_
    rotate_left
    · (intro wq hSq; have q0 := (hSq.cell (p := ⟨p, 0, none⟩) hplt).trans d0; have q1 := (hSq.cell (p := ⟨g, i * 5 + 1, none⟩) hglt).trans c1; have q4 := (hSq.cell (p := ⟨g, i * 5 + 4, none⟩) hglt).trans c4; go_simp <;> first | with_reducible rfl | rfl)
    simp only [Act.put, List.setIfInBounds_toArray, List.set_cons_zero, List.set_cons_succ]
    refine take_on (i := 14) (v := ?_) rfl rfl (by kernel_rfl) (by kernel_rfl) (by kernel_rfl) (fun _ _ _ h => h) rfl ?_ hHeld ?_
    rotate_left
    · (intro wq hSq; have q0 := (hSq.cell (p := ⟨p, 0, none⟩) hplt).trans d0; have q1 := (hSq.cell (p := ⟨g, i * 5 + 1, none⟩) hglt).trans c1; have q4 := (hSq.cell (p := ⟨g, i * 5 + 4, none⟩) hglt).trans c4; go_simp <;> first | with_reducible rfl | rfl)
    simp only [Act.put, List.setIfInBounds_toArray, List.set_cons_zero, List.set_cons_succ]
    refine take_on (i := 15) (v := ?_) rfl rfl (by kernel_rfl) (by kernel_rfl) (by kernel_rfl) (fun _ _ _ h => h) rfl ?_ hHeld ?_
    rotate_left
    · (intro wq hSq; have q0 := (hSq.cell (p := ⟨p, 0, none⟩) hplt).trans d0; have q1 := (hSq.cell (p := ⟨g, i * 5 + 1, none⟩) hglt).trans c1; have q4 := (hSq.cell (p := ⟨g, i * 5 + 4, none⟩) hglt).trans c4; go_simp <;> first | with_reducible rfl | rfl)
    simp only [Act.put, List.setIfInBounds_toArray, List.set_cons_zero, List.set_cons_succ]
    refine wpAnyH_done (by kernel_rfl) ?_ _
    have hcall := hf _ hHeld
    go_wp2_with fail
    refine hcall.mono ?_
    rintro e w2 ⟨rfl, hm⟩
    have hW := hfin.out _ _ hHeld hm
    clear hcall
    go_wp2_with fail
    go_ret
    exact ⟨rfl, hW⟩
  · have ham : am = false := by simpa using ham
    subst ham
    clear hfd
    go_wp2_with fail
    refine wp_region_held_drew (S := (fun w' => Below w.heap.size w w')) (by kernel_rfl) ?_ (fun hHeld => ?_)
    · exact (Below.refl _ _).drew
    refine take_on (i := 0) (v := ?_) rfl rfl (by kernel_rfl) (by kernel_rfl) (by kernel_rfl) (fun _ _ _ h => h) rfl ?_ hHeld ?_
    rotate_left
    · (intro wq hSq; have q0 := (hSq.cell (p := ⟨p, 0, none⟩) hplt).trans d0; go_simp <;> first | with_reducible rfl | rfl)
    simp only [Act.put, List.setIfInBounds_toArray, List.set_cons_zero, List.set_cons_succ]
    refine take_on (i := 1) (v := ?_) rfl rfl (by kernel_rfl) (by kernel_rfl) (by kernel_rfl) (fun _ _ _ h => h) rfl ?_ hHeld ?_
    rotate_left
    · (intro wq hSq; have q0 := (hSq.cell (p := ⟨p, 0, none⟩) hplt).trans d0; go_simp <;> first | with_reducible rfl | rfl)
    simp only [Act.put, List.setIfInBounds_toArray, List.set_cons_zero, List.set_cons_succ]
    refine take_on (i := 2) (v := ?_) rfl rfl (by kernel_rfl) (by kernel_rfl) (by kernel_rfl) (fun _ _ _ h => h) rfl ?_ hHeld ?_
    rotate_left
    · (intro wq hSq; have q0 := (hSq.cell (p := ⟨p, 0, none⟩) hplt).trans d0; go_simp <;> first | with_reducible rfl | rfl)
    simp only [Act.put, List.setIfInBounds_toArray, List.set_cons_zero, List.set_cons_succ]
    refine take_on (i := 3) (v := ?_) rfl rfl (by kernel_rfl) (by kernel_rfl) (by kernel_rfl) (fun _ _ _ h => h) rfl ?_ hHeld ?_
    rotate_left
    · (intro wq hSq; have q0 := (hSq.cell (p := ⟨p, 0, none⟩) hplt).trans d0; go_simp <;> first | with_reducible rfl | rfl)
    simp only [Act.put, List.setIfInBounds_toArray, List.set_cons_zero, List.set_cons_succ]
    refine take_on (i := 4) (v := ?_) rfl rfl (by kernel_rfl) (by kernel_rfl) (by kernel_rfl) (fun _ _ _ h => h) rfl ?_ hHeld ?_
    rotate_left
    · (intro wq hSq; have q0 := (hSq.cell (p := ⟨p, 0, none⟩) hplt).trans d0; go_simp <;> first | with_reducible rfl | rfl)
    simp only [Act.put, List.setIfInBounds_toArray, List.set_cons_zero, List.set_cons_succ]
    refine take_off (i := 5) rfl rfl (by kernel_rfl) (by kernel_rfl) (by kernel_rfl) (fun _ _ _ h => h) rfl hHeld ?_
    simp only [Act.put, List.setIfInBounds_toArray, List.set_cons_zero, List.set_cons_succ]
    refine take_off (i := 6) rfl rfl (by kernel_rfl) (by kernel_rfl) (by kernel_rfl) (fun _ _ _ h => h) rfl hHeld ?_
    simp only [Act.put, List.setIfInBounds_toArray, List.set_cons_zero, List.set_cons_succ]
    refine take_off (i := 7) rfl rfl (by kernel_rfl) (by kernel_rfl) (by kernel_rfl) (fun _ _ _ h => h) rfl hHeld ?_
    simp only [Act.put, List.setIfInBounds_toArray, List.set_cons_zero, List.set_cons_succ]
    refine take_off (i := 8) rfl rfl (by kernel_rfl) (by kernel_rfl) (by kernel_rfl) (fun _ _ _ h => h) rfl hHeld ?_
    simp only [Act.put, List.setIfInBounds_toArray, List.set_cons_zero, List.set_cons_succ]
    refine take_off (i := 9) rfl rfl (by kernel_rfl) (by kernel_rfl) (by kernel_rfl) (fun _ _ _ h => h) rfl hHeld ?_
    simp only [Act.put, List.setIfInBounds_toArray, List.set_cons_zero, List.set_cons_succ]
    refine take_off (i := 10) rfl rfl (by kernel_rfl) (by kernel_rfl) (by kernel_rfl) (fun _ _ _ h => h) rfl hHeld ?_
    simp only [Act.put, List.setIfInBounds_toArray, List.set_cons_zero, List.set_cons_succ]
    refine take_off (i := 11) rfl rfl (by kernel_rfl) (by kernel_rfl) (by kernel_rfl) (fun _ _ _ h => h) rfl hHeld ?_
    simp only [Act.put, List.setIfInBounds_toArray, List.set_cons_zero, List.set_cons_succ]
    refine take_off (i := 12) rfl rfl (by kernel_rfl) (by kernel_rfl) (by kernel_rfl) (fun _ _ _ h => h) rfl hHeld ?_
    simp only [Act.put, List.setIfInBounds_toArray, List.set_cons_zero, List.set_cons_succ]
    refine take_off (i := 13) rfl rfl (by kernel_rfl) (by kernel_rfl) (by kernel_rfl) (fun _ _ _ h => h) rfl hHeld ?_
    simp only [Act.put, List.setIfInBounds_toArray, List.set_cons_zero, List.set_cons_succ]
    refine take_off (i := 14) rfl rfl (by kernel_rfl) (by kernel_rfl) (by kernel_rfl) (fun _ _ _ h => h) rfl hHeld ?_
    simp only [Act.put, List.setIfInBounds_toArray, List.set_cons_zero, List.set_cons_succ]
    refine take_on (i := 15) (v := ?_) rfl rfl (by kernel_rfl) (by kernel_rfl) (by kernel_rfl) (fun _ _ _ h => h) rfl ?_ hHeld ?_
    rotate_left
    · (intro wq hSq; have q0 := (hSq.cell (p := ⟨p, 0, none⟩) hplt).trans d0; go_simp <;> first | with_reducible rfl | rfl)
    simp only [Act.put, List.setIfInBounds_toArray, List.set_cons_zero, List.set_cons_succ]
    refine wpAnyH_done (by kernel_rfl) ?_ _
    have hcall := hf _ hHeld
    go_wp2_with fail
    refine hcall.mono ?_
    rintro e w2 ⟨rfl, hm⟩
    have hW := hfin.out _ _ hHeld hm
    clear hcall
    go_wp2_with fail
    go_ret
    exact ⟨rfl, hW⟩

set_option maxRecDepth 100000 in
set_option maxHeartbeats 1600000 in
theorem operate_trim_no (h : Dk w F p am n s g C q v) (i : Nat) (hi : i < n) (x : Value) (hd : down am (s i) = false) 
    (hf : ∀ w1, Below w.heap.size w w1 → Calls Tryz.prog 86 #[.pointer (some ⟨g, i * 5, none⟩), x] w1 fun e w2 => e = .returned (.int .i64 70) ∧ Moved w1 (q i) 0 (v i) (s i).B (s i).bs (s i).k w2) :
    Calls Tryz.prog 68 #[.pointer (some ⟨p, 0, none⟩), .int .i64 (i : Int), .func (.func 86) #[] #[x]] w fun e w' => Opd w F p am n s 70 e w' := by
  have hp := part_ok h i hi
  obtain ⟨c0, c1, c2, c3, c4, _⟩ := h.at_ hi
  obtain ⟨d0, d1, _⟩ := h.cells
  have hplt := h.plt
  have hglt := h.glt
  have hgF : F g := h.foot g (.inr (.inl rfl))
  have hfd : am = false ∨ ¬ (s i).fd ≤ ((s i).c : Int) := by
    unfold down at hd
    cases am with
    | false => exact .inl rfl
    | true => right; simpa using hd
  clear hd
  have hfin : ∀ w1 w2, Below w.heap.size w w1 → Moved w1 (q i) 0 (v i) (s i).B (s i).bs (s i).k w2 → Went w F p am n s w2 := by
    intro w1 w2 hb hm
    obtain ⟨⟨v', h2⟩, hc2⟩ := (h.below hb).moved hi hm (h.le i hi)
    rw [upd_self] at h2
    have hs1 := hb.size
    have hs2 := hc2.size
    refine ⟨⟨g, C, q, v', h2.mono (fun j hj => ?_) (fun j hj => ?_)⟩, (Chg.new hb).trans hc2 (fun _ _ x => x)⟩
    · rcases hj with hj | hj
      · exact .inl hj
      · exact .inr (by omega)
    · rcases hj with hj | hj
      · have := h.lt j hj; omega
      · exact hj.2
  obtain ⟨fd, hfd'⟩ : ∃ x, x = (s i).fd := ⟨_, rfl⟩
  rw [← hfd'] at c1 hfd
  obtain ⟨cc, hcc⟩ : ∃ x, x = (s i).c := ⟨_, rfl⟩
  rw [← hcc] at c4 hfd
  clear hfd' hcc
  have hH := hide_it h
  clear h
  replace hfin := hide_it hfin
  go_enter Tryz.func68, Tryz.ntmps68
  go_wp2_with fail
  refine hp.mono ?_
  rintro e w1 ⟨rfl, hw⟩
  have hw2 := hw.symm
  subst hw2
  clear hw hp
  by_cases ham : am = true
  · subst ham
    have hfd2 : (cc : Int) < fd := by simpa using hfd
    clear hfd
    go_wp2_with fail
    refine wp_region_held_drew (S := (fun w' => Below w.heap.size w w')) (by kernel_rfl) ?_ (fun hHeld => ?_)
    · exact (Below.refl _ _).drew
    refine take_on (i := 0) (v := ?_) rfl rfl (by kernel_rfl) (by kernel_rfl) (by kernel_rfl) (fun _ _ _ h => h) rfl ?_ hHeld ?_
    rotate_left
    · (intro wq hSq; have q0 := (hSq.cell (p := ⟨p, 0, none⟩) hplt).trans d0; have q1 := (hSq.cell (p := ⟨g, i * 5 + 1, none⟩) hglt).trans c1; have q4 := (hSq.cell (p := ⟨g, i * 5 + 4, none⟩) hglt).trans c4; go_simp <;> first | with_reducible rfl | rfl)
    simp only [Act.put, List.setIfInBounds_toArray, List.set_cons_zero, List.set_cons_succ]
    refine take_on (i := 1) (v := ?_) rfl rfl (by kernel_rfl) (by kernel_rfl) (by kernel_rfl) (fun _ _ _ h => h) rfl ?_ hHeld ?_
    rotate_left
    · (intro wq hSq; have q0 := (hSq.cell (p := ⟨p, 0, none⟩) hplt).trans d0; have q1 := (hSq.cell (p := ⟨g, i * 5 + 1, none⟩) hglt).trans c1; have q4 := (hSq.cell (p := ⟨g, i * 5 + 4, none⟩) hglt).trans c4; go_simp <;> first | with_reducible rfl | rfl)
    simp only [Act.put, List.setIfInBounds_toArray, List.set_cons_zero, List.set_cons_succ]
    refine take_on (i := 2) (v := ?_) rfl rfl (by kernel_rfl) (by kernel_rfl) (by kernel_rfl) (fun _ _ _ h => h) rfl ?_ hHeld ?_
    rotate_left
    · (intro wq hSq; have q0 := (hSq.cell (p := ⟨p, 0, none⟩) hplt).trans d0; have q1 := (hSq.cell (p := ⟨g, i * 5 + 1, none⟩) hglt).trans c1; have q4 := (hSq.cell (p := ⟨g, i * 5 + 4, none⟩) hglt).trans c4; go_simp <;> first | with_reducible rfl | rfl)
    simp only [Act.put, List.setIfInBounds_toArray, List.set_cons_zero, List.set_cons_succ]
    refine take_on (i := 3) (v := ?_) rfl rfl (by kernel_rfl) (by kernel_rfl) (by kernel_rfl) (fun _ _ _ h => h) rfl ?_ hHeld ?_
    rotate_left
    · (intro wq hSq; have q0 := (hSq.cell (p := ⟨p, 0, none⟩) hplt).trans d0; have q1 := (hSq.cell (p := ⟨g, i * 5 + 1, none⟩) hglt).trans c1; have q4 := (hSq.cell (p := ⟨g, i * 5 + 4, none⟩) hglt).trans c4; go_simp <;> first | with_reducible rfl | rfl)
    simp only [Act.put, List.setIfInBounds_toArray, List.set_cons_zero, List.set_cons_succ]
    refine take_on (i := 4) (v := ?_) rfl rfl (by kernel_rfl) (by kernel_rfl) (by kernel_rfl) (fun _ _ _ h => h) rfl ?_ hHeld ?_
    rotate_left
    · (intro wq hSq; have q0 := (hSq.cell (p := ⟨p, 0, none⟩) hplt).trans d0; have q1 := (hSq.cell (p := ⟨g, i * 5 + 1, none⟩) hglt).trans c1; have q4 := (hSq.cell (p := ⟨g, i * 5 + 4, none⟩) hglt).trans c4; go_simp <;> first | with_reducible rfl | rfl)
    simp only [Act.put, List.setIfInBounds_toArray, List.set_cons_zero, List.set_cons_succ]
    refine take_on (i := 5) (v := ?_) rfl rfl (by kernel_rfl) (by kernel_rfl) (by kernel_rfl) (fun _ _ _ h => h) rfl ?_ hHeld ?_
    rotate_left
    · (intro wq hSq; have q0 := (hSq.cell (p := ⟨p, 0, none⟩) hplt).trans d0; have q1 := (hSq.cell (p := ⟨g, i * 5 + 1, none⟩) hglt).trans c1; have q4 := (hSq.cell (p := ⟨g, i * 5 + 4, none⟩) hglt).trans c4; go_simp <;> first | with_reducible rfl | rfl)
    simp only [Act.put, List.setIfInBounds_toArray, List.set_cons_zero, List.set_cons_succ]
    refine take_on (i := 6) (v := ?_) rfl rfl (by kernel_rfl) (by kernel_rfl) (by kernel_rfl) (fun _ _ _ h => h) rfl ?_ hHeld ?_
    rotate_left
    · (intro wq hSq; have q0 := (hSq.cell (p := ⟨p, 0, none⟩) hplt).trans d0; have q1 := (hSq.cell (p := ⟨g, i * 5 + 1, none⟩) hglt).trans c1; have q4 := (hSq.cell (p := ⟨g, i * 5 + 4, none⟩) hglt).trans c4; go_simp <;> first | with_reducible rfl | rfl)
    simp only [Act.put, List.setIfInBounds_toArray, List.set_cons_zero, List.set_cons_succ]
    refine take_on (i := 7) (v := ?_) rfl rfl (by kernel_rfl) (by kernel_rfl) (by kernel_rfl) (fun _ _ _ h => h) rfl ?_ hHeld ?_
    rotate_left
    · (intro wq hSq; have q0 := (hSq.cell (p := ⟨p, 0, none⟩) hplt).trans d0; have q1 := (hSq.cell (p := ⟨g, i * 5 + 1, none⟩) hglt).trans c1; have q4 := (hSq.cell (p := ⟨g, i * 5 + 4, none⟩) hglt).trans c4; go_simp <;> first | with_reducible rfl | rfl)
    simp only [Act.put, List.setIfInBounds_toArray, List.set_cons_zero, List.set_cons_succ]
    refine take_on (i := 8) (v := ?_) rfl rfl (by kernel_rfl) (by kernel_rfl) (by kernel_rfl) (fun _ _ _ h => h) rfl ?_ hHeld ?_
    rotate_left
    · (intro wq hSq; have q0 := (hSq.cell (p := ⟨p, 0, none⟩) hplt).trans d0; have q1 := (hSq.cell (p := ⟨g, i * 5 + 1, none⟩) hglt).trans c1; have q4 := (hSq.cell (p := ⟨g, i * 5 + 4, none⟩) hglt).trans c4; go_simp <;> first | with_reducible rfl | rfl)
    simp only [Act.put, List.setIfInBounds_toArray, List.set_cons_zero, List.set_cons_succ]
    refine take_on (i := 9) (v := ?_) rfl rfl (by kernel_rfl) (by kernel_rfl) (by kernel_rfl) (fun _ _ _ h => h) rfl ?_ hHeld ?_
    rotate_left
    · (intro wq hSq; have q0 := (hSq.cell (p := ⟨p, 0, none⟩) hplt).trans d0; have q1 := (hSq.cell (p := ⟨g, i * 5 + 1, none⟩) hglt).trans c1; have q4 := (hSq.cell (p := ⟨g, i * 5 + 4, none⟩) hglt).trans c4; go_simp <;> first | with_reducible rfl | rfl)
    simp only [Act.put, List.setIfInBounds_toArray, List.set_cons_zero, List.set_cons_succ]
    refine take_on (i := 10) (v := ?_) rfl rfl (by kernel_rfl) (by kernel_rfl) (by kernel_rfl) (fun _ _ _ h => h) rfl ?_ hHeld ?_
    rotate_left
    · (intro wq hSq; have q0 := (hSq.cell (p := ⟨p, 0, none⟩) hplt).trans d0; have q1 := (hSq.cell (p := ⟨g, i * 5 + 1, none⟩) hglt).trans c1; have q4 := (hSq.cell (p := ⟨g, i * 5 + 4, none⟩) hglt).trans c4; go_simp <;> first | with_reducible rfl | rfl)
    simp only [Act.put, List.setIfInBounds_toArray, List.set_cons_zero, List.set_cons_succ]
    refine take_on (i := 11) (v := ?_) rfl rfl (by kernel_rfl) (by kernel_rfl) (by kernel_rfl) (fun _ _ _ h => h) rfl ?_ hHeld ?_
    rotate_left
    · (intro wq hSq; have q0 := (hSq.cell (p := ⟨p, 0, none⟩) hplt).trans d0; have q1 := (hSq.cell (p := ⟨g, i * 5 + 1, none⟩) hglt).trans c1; have q4 := (hSq.cell (p := ⟨g, i * 5 + 4, none⟩) hglt).trans c4; go_simp <;> first | with_reducible rfl | rfl)
    simp only [Act.put, List.setIfInBounds_toArray, List.set_cons_zero, List.set_cons_succ]
    refine take_on (i := 12) (v := ?_) rfl rfl (by kernel_rfl) (by kernel_rfl) (by kernel_rfl) (fun _ _ _ h => h) rfl ?_ hHeld ?_
    rotate_left
    · (intro wq hSq; have q0 := (hSq.cell (p := ⟨p, 0, none⟩) hplt).trans d0; have q1 := (hSq.cell (p := ⟨g, i * 5 + 1, none⟩) hglt).trans c1; have q4 := (hSq.cell (p := ⟨g, i * 5 + 4, none⟩) hglt).trans c4; go_simp <;> first | with_reducible rfl | rfl)
    simp only [Act.put, List.setIfInBounds_toArray, List.set_cons_zero, List.set_cons_succ]
    refine take_on (i := 13) (v := ?_) rfl rfl (by kernel_rfl) (by kernel_rfl) (by kernel_rfl) (fun _ _ _ h => h) rfl ?_ hHeld ?_
    rotate_left
    · (intro wq hSq; have q0 := (hSq.cell (p := ⟨p, 0, none⟩) hplt).trans d0; have q1 := (hSq.cell (p := ⟨g, i * 5 + 1, none⟩) hglt).trans c1; have q4 := (hSq.cell (p := ⟨g, i * 5 + 4, none⟩) hglt).trans c4; go_simp <;> first | with_reducible rfl | rfl)
    simp only [Act.put, List.setIfInBounds_toArray, List.set_cons_zero, List.set_cons_succ]
    refine take_on (i := 14) (v := ?_) rfl rfl (by kernel_rfl) (by kernel_rfl) (by kernel_rfl) (fun _ _ _ h => h) rfl ?_ hHeld ?_
    rotate_left
    · (intro wq hSq; have q0 := (hSq.cell (p := ⟨p, 0, none⟩) hplt).trans d0; have q1 := (hSq.cell (p := ⟨g, i * 5 + 1, none⟩) hglt).trans c1; have q4 := (hSq.cell (p := ⟨g, i * 5 + 4, none⟩) hglt).trans c4; go_simp <;> first | with_reducible rfl | rfl)
    simp only [Act.put, List.setIfInBounds_toArray, List.set_cons_zero, List.set_cons_succ]
    refine take_on (i := 15) (v := ?_) rfl rfl (by kernel_rfl) (by kernel_rfl) (by kernel_rfl) (fun _ _ _ h => h) rfl ?_ hHeld ?_
    rotate_left
    · (intro wq hSq; have q0 := (hSq.cell (p := ⟨p, 0, none⟩) hplt).trans d0; have q1 := (hSq.cell (p := ⟨g, i * 5 + 1, none⟩) hglt).trans c1; have q4 := (hSq.cell (p := ⟨g, i * 5 + 4, none⟩) hglt).trans c4; go_simp <;> first | with_reducible rfl | rfl)
    simp only [Act.put, List.setIfInBounds_toArray, List.set_cons_zero, List.set_cons_succ]
    refine wpAnyH_done (by kernel_rfl) ?_ _
    have hcall := hf _ hHeld
    go_wp2_with fail
    refine hcall.mono ?_
    rintro e w2 ⟨rfl, hm⟩
    have hW := hfin.out _ _ hHeld hm
    clear hcall
    go_wp2_with fail
    go_ret
    exact ⟨rfl, hW⟩
  · have ham : am = false := by simpa using ham
    subst ham
    clear hfd
    go_wp2_with fail
    refine wp_region_held_drew (S := (fun w' => Below w.heap.size w w')) (by kernel_rfl) ?_ (fun hHeld => ?_)
    · exact (Below.refl _ _).drew
    refine take_on (i := 0) (v := ?_) rfl rfl (by kernel_rfl) (by kernel_rfl) (by kernel_rfl) (fun _ _ _ h => h) rfl ?_ hHeld ?_
    rotate_left
    · (intro wq hSq; have q0 := (hSq.cell (p := ⟨p, 0, none⟩) hplt).trans d0; go_simp <;> first | with_reducible rfl | rfl)
    simp only [Act.put, List.setIfInBounds_toArray, List.set_cons_zero, List.set_cons_succ]
    refine take_on (i := 1) (v := ?_) rfl rfl (by kernel_rfl) (by kernel_rfl) (by kernel_rfl) (fun _ _ _ h => h) rfl ?_ hHeld ?_
    rotate_left
    · (intro wq hSq; have q0 := (hSq.cell (p := ⟨p, 0, none⟩) hplt).trans d0; go_simp <;> first | with_reducible rfl | rfl)
    simp only [Act.put, List.setIfInBounds_toArray, List.set_cons_zero, List.set_cons_succ]
    refine take_on (i := 2) (v := ?_) rfl rfl (by kernel_rfl) (by kernel_rfl) (by kernel_rfl) (fun _ _ _ h => h) rfl ?_ hHeld ?_
    rotate_left
    · (intro wq hSq; have q0 := (hSq.cell (p := ⟨p, 0, none⟩) hplt).trans d0; go_simp <;> first | with_reducible rfl | rfl)
    simp only [Act.put, List.setIfInBounds_toArray, List.set_cons_zero, List.set_cons_succ]
    refine take_on (i := 3) (v := ?_) rfl rfl (by kernel_rfl) (by kernel_rfl) (by kernel_rfl) (fun _ _ _ h => h) rfl ?_ hHeld ?_
    rotate_left
    · (intro wq hSq; have q0 := (hSq.cell (p := ⟨p, 0, none⟩) hplt).trans d0; go_simp <;> first | with_reducible rfl | rfl)
    simp only [Act.put, List.setIfInBounds_toArray, List.set_cons_zero, List.set_cons_succ]
    refine take_on (i := 4) (v := ?_) rfl rfl (by kernel_rfl) (by kernel_rfl) (by kernel_rfl) (fun _ _ _ h => h) rfl ?_ hHeld ?_
    rotate_left
    · (intro wq hSq; have q0 := (hSq.cell (p := ⟨p, 0, none⟩) hplt).trans d0; go_simp <;> first | with_reducible rfl | rfl)
    simp only [Act.put, List.setIfInBounds_toArray, List.set_cons_zero, List.set_cons_succ]
    refine take_off (i := 5) rfl rfl (by kernel_rfl) (by kernel_rfl) (by kernel_rfl) (fun _ _ _ h => h) rfl hHeld ?_
    simp only [Act.put, List.setIfInBounds_toArray, List.set_cons_zero, List.set_cons_succ]
    refine take_off (i := 6) rfl rfl (by kernel_rfl) (by kernel_rfl) (by kernel_rfl) (fun _ _ _ h => h) rfl hHeld ?_
    simp only [Act.put, List.setIfInBounds_toArray, List.set_cons_zero, List.set_cons_succ]
    refine take_off (i := 7) rfl rfl (by kernel_rfl) (by kernel_rfl) (by kernel_rfl) (fun _ _ _ h => h) rfl hHeld ?_
    simp only [Act.put, List.setIfInBounds_toArray, List.set_cons_zero, List.set_cons_succ]
    refine take_off (i := 8) rfl rfl (by kernel_rfl) (by kernel_rfl) (by kernel_rfl) (fun _ _ _ h => h) rfl hHeld ?_
    simp only [Act.put, List.setIfInBounds_toArray, List.set_cons_zero, List.set_cons_succ]
    refine take_off (i := 9) rfl rfl (by kernel_rfl) (by kernel_rfl) (by kernel_rfl) (fun _ _ _ h => h) rfl hHeld ?_
    simp only [Act.put, List.setIfInBounds_toArray, List.set_cons_zero, List.set_cons_succ]
    refine take_off (i := 10) rfl rfl (by kernel_rfl) (by kernel_rfl) (by kernel_rfl) (fun _ _ _ h => h) rfl hHeld ?_
    simp only [Act.put, List.setIfInBounds_toArray, List.set_cons_zero, List.set_cons_succ]
    refine take_off (i := 11) rfl rfl (by kernel_rfl) (by kernel_rfl) (by kernel_rfl) (fun _ _ _ h => h) rfl hHeld ?_
    simp only [Act.put, List.setIfInBounds_toArray, List.set_cons_zero, List.set_cons_succ]
    refine take_off (i := 12) rfl rfl (by kernel_rfl) (by kernel_rfl) (by kernel_rfl) (fun _ _ _ h => h) rfl hHeld ?_
    simp only [Act.put, List.setIfInBounds_toArray, List.set_cons_zero, List.set_cons_succ]
    refine take_off (i := 13) rfl rfl (by kernel_rfl) (by kernel_rfl) (by kernel_rfl) (fun _ _ _ h => h) rfl hHeld ?_
    simp only [Act.put, List.setIfInBounds_toArray, List.set_cons_zero, List.set_cons_succ]
    refine take_off (i := 14) rfl rfl (by kernel_rfl) (by kernel_rfl) (by kernel_rfl) (fun _ _ _ h => h) rfl hHeld ?_
    simp only [Act.put, List.setIfInBounds_toArray, List.set_cons_zero, List.set_cons_succ]
    refine take_on (i := 15) (v := ?_) rfl rfl (by kernel_rfl) (by kernel_rfl) (by kernel_rfl) (fun _ _ _ h => h) rfl ?_ hHeld ?_
    rotate_left
    · (intro wq hSq; have q0 := (hSq.cell (p := ⟨p, 0, none⟩) hplt).trans d0; go_simp <;> first | with_reducible rfl | rfl)
    simp only [Act.put, List.setIfInBounds_toArray, List.set_cons_zero, List.set_cons_succ]
    refine wpAnyH_done (by kernel_rfl) ?_ _
    have hcall := hf _ hHeld
    go_wp2_with fail
    refine hcall.mono ?_
    rintro e w2 ⟨rfl, hm⟩
    have hW := hfin.out _ _ hHeld hm
    clear hcall
    go_wp2_with fail
    go_ret
    exact ⟨rfl, hW⟩
end

end Go.Proofs.YtkacfpmninmjkaaGreat

namespace Go.Proofs.YtkacfpmninmjkaaGreat
open Go.RowKit

/-- What an operation answers, and the area behind it. Kind: 0 Append of zs, 1 Sync, 2 Cut at A, else Trim to A. -/
def opX (x : Pt) (kd : Nat) (A : Int) (zs : List Nat) : Int × Pt :=
  if kd = 0 then (0, { x with bs := x.bs ++ zs, c := x.c + 1 })
  else if kd = 1 then (0, { x with k := x.bs.length, c := x.c + 1 })
  else if kd = 2 then (if A < (x.B : Int) ∨ (x.B : Int) + (x.bs.length : Int) < A then (70, x) else (0, { x with bs := x.bs.take (A - (x.B : Int)).toNat, k := min x.k (A - (x.B : Int)).toNat, c := x.c + 1 }))
  else (if A < (x.B : Int) ∨ (x.B : Int) + (x.k : Int) < A then (70, x) else (0, { x with B := x.B + (A - (x.B : Int)).toNat, bs := x.bs.drop (A - (x.B : Int)).toNat, k := x.k - (A - (x.B : Int)).toNat, c := x.c + 1 }))
/-- .. unless the power is gone. -/
def opS (am : Bool) (x : Pt) (kd : Nat) (A : Int) (zs : List Nat) : Int × Pt := if down am x then (80, x) else opX x kd A zs

theorem Went.behind {w w1 w2 : World} {F : Nat → Prop} {p : Nat} {am : Bool} {n : Nat} {s : Nat → Pt} (hb : Below w.heap.size w w1) (k : Went w1 F p am n s w2) (hF : ∀ j, F j → j < w.heap.size) : Went w F p am n s w2 := by
  have h1 := hb.size
  have h2 := k.chg.size
  refine ⟨k.dsk.mono (fun j hj => ?_) (fun j hj => ?_), (Chg.new hb).trans k.chg (fun _ _ x => x)⟩
  · rcases hj with hj | hj
    · exact .inl hj
    · exact .inr (by omega)
  · rcases hj with hj | hj
    · have := hF j hj; omega
    · exact hj.2
theorem Opd.of_below {w w' : World} {F : Nat → Prop} {p : Nat} {am : Bool} {n : Nat} {s : Nat → Pt} {E : Int} {e : Ending} (h : Dsk w F p am n s) (he : e = .returned (.int .i64 E)) (hb : Below w.heap.size w w') : Opd w F p am n s E e w' := ⟨he, Went.of_below h hb⟩

section
variable {w : World} {F : Nat → Prop} {p : Nat} {am : Bool} {n : Nat} {s : Nat → Pt} {g : Nat} {C : Array Value} {q : Nat → Nat} {v : Nat → Value}

set_option maxRecDepth 100000 in
set_option maxHeartbeats 400000 in
theorem close_append {g o b qi : Nat} {u : Value} {B : Nat} {bs : List Nat} {k : Nat} {B' : Nat} {bs' : List Nat} {k' : Nat} (x : Value) (E : Int) (w : World) (hg : w.cell? ⟨g, o, none⟩ = some (.pointer (some ⟨qi, 0, none⟩))) (hb : w.cell? ⟨b, 0, none⟩ = some x) (hgl : g < w.heap.size) (hbl : b < w.heap.size) (h : Ar w qi 0 u B bs k) (hgn : ¬ Ft qi u g) (hbn : ¬ Ft qi u b) (a : Option Addr) (l c : Nat) (hx : x = .slice a l c)
    (hc : Calls Tryz.prog 70 #[.pointer (some ⟨qi, 0, none⟩), x] w.drew fun e w' => e = .returned (.int .i64 E) ∧ Moved w.drew qi 0 u B' bs' k' w') :
    Calls Tryz.prog 69 #[.pointer (some ⟨g, o, none⟩), .pointer (some ⟨b, 0, none⟩)] w fun e w' => e = .returned (.int .i64 E) ∧ Moved w qi 0 u B' bs' k' w' := by
  subst hx
  have hH := hide_it h
  clear h
  go_enter Tryz.func69, Tryz.ntmps69
  go_wp2_with fail
  refine wp_region_held_drew (S := (fun w' => w'.heap[g]? = w.heap[g]? ∧ w'.heap[b]? = w.heap[b]?)) (by kernel_rfl) ?_ (fun hHeld => ?_)
  · exact ⟨rfl, rfl⟩
  refine take_on (i := 0) (v := ?_) rfl rfl (by kernel_rfl) (by kernel_rfl) (by kernel_rfl) (fun _ _ _ h => h) rfl ?_ hHeld ?_
  rotate_left
  · (intro wq hSq; have q0 := (World.cell?_of_block (w := w) (a := ⟨g, o, none⟩) hSq.1).trans hg; have q1 := (World.cell?_of_block (w := w) (a := ⟨b, 0, none⟩) hSq.2).trans hb; go_simp <;> first | with_reducible rfl | rfl)
  simp only [Act.put, List.setIfInBounds_toArray, List.set_cons_zero, List.set_cons_succ]
  refine take_on (i := 1) (v := ?_) rfl rfl (by kernel_rfl) (by kernel_rfl) (by kernel_rfl) (fun _ _ _ h => h) rfl ?_ hHeld ?_
  rotate_left
  · (intro wq hSq; have q0 := (World.cell?_of_block (w := w) (a := ⟨g, o, none⟩) hSq.1).trans hg; have q1 := (World.cell?_of_block (w := w) (a := ⟨b, 0, none⟩) hSq.2).trans hb; go_simp <;> first | with_reducible rfl | rfl)
  simp only [Act.put, List.setIfInBounds_toArray, List.set_cons_zero, List.set_cons_succ]
  refine take_on (i := 2) (v := ?_) rfl rfl (by kernel_rfl) (by kernel_rfl) (by kernel_rfl) (fun _ _ _ h => h) rfl ?_ hHeld ?_
  rotate_left
  · (intro wq hSq; have q0 := (World.cell?_of_block (w := w) (a := ⟨g, o, none⟩) hSq.1).trans hg; have q1 := (World.cell?_of_block (w := w) (a := ⟨b, 0, none⟩) hSq.2).trans hb; go_simp <;> first | with_reducible rfl | rfl)
  simp only [Act.put, List.setIfInBounds_toArray, List.set_cons_zero, List.set_cons_succ]
  refine take_on (i := 3) (v := ?_) rfl rfl (by kernel_rfl) (by kernel_rfl) (by kernel_rfl) (fun _ _ _ h => h) rfl ?_ hHeld ?_
  rotate_left
  · (intro wq hSq; have q0 := (World.cell?_of_block (w := w) (a := ⟨g, o, none⟩) hSq.1).trans hg; have q1 := (World.cell?_of_block (w := w) (a := ⟨b, 0, none⟩) hSq.2).trans hb; go_simp <;> first | with_reducible rfl | rfl)
  simp only [Act.put, List.setIfInBounds_toArray, List.set_cons_zero, List.set_cons_succ]
  refine take_on (i := 4) (v := ?_) rfl rfl (by kernel_rfl) (by kernel_rfl) (by kernel_rfl) (fun _ _ _ h => h) rfl ?_ hHeld ?_
  rotate_left
  · (intro wq hSq; have q0 := (World.cell?_of_block (w := w) (a := ⟨g, o, none⟩) hSq.1).trans hg; have q1 := (World.cell?_of_block (w := w) (a := ⟨b, 0, none⟩) hSq.2).trans hb; go_simp <;> first | with_reducible rfl | rfl)
  simp only [Act.put, List.setIfInBounds_toArray, List.set_cons_zero, List.set_cons_succ]
  refine take_one (i := 5) rfl (by kernel_rfl) (fun K hK => ?_)
  go_simp
  refine hc.mono ?_; rintro e w2 ⟨rfl, hm⟩
  try go_wp2_with fail
  refine hK.out _ _ ?_ (fun hHeld => ?_)
  · exact ⟨hm.chg.block g hgl hgn, hm.chg.block b hbl hbn⟩
  clear hK K
  try simp only [Act.put, List.setIfInBounds_toArray, List.set_cons_zero, List.set_cons_succ]
  refine take_on (i := 6) (v := ?_) rfl rfl (by kernel_rfl) (by kernel_rfl) (by kernel_rfl) (fun _ _ _ h => h) rfl ?_ hHeld ?_
  rotate_left
  · (intro wq hSq; have q0 := (World.cell?_of_block (w := w) (a := ⟨g, o, none⟩) hSq.1).trans hg; have q1 := (World.cell?_of_block (w := w) (a := ⟨b, 0, none⟩) hSq.2).trans hb; go_simp <;> first | with_reducible rfl | rfl)
  simp only [Act.put, List.setIfInBounds_toArray, List.set_cons_zero, List.set_cons_succ]
  refine wpAnyH_done (by kernel_rfl) ?_ _
  go_wp2_with fail
  go_ret
  exact ⟨rfl, Moved.behind hH.out (Below.refl _ _).drew hm⟩

set_option maxRecDepth 100000 in
set_option maxHeartbeats 400000 in
theorem close_cut {g o b qi : Nat} {u : Value} {B : Nat} {bs : List Nat} {k : Nat} {B' : Nat} {bs' : List Nat} {k' : Nat} (x : Value) (E : Int) (w : World) (hg : w.cell? ⟨g, o, none⟩ = some (.pointer (some ⟨qi, 0, none⟩))) (hb : w.cell? ⟨b, 0, none⟩ = some x) (hgl : g < w.heap.size) (hbl : b < w.heap.size) (h : Ar w qi 0 u B bs k) (hgn : ¬ Ft qi u g) (hbn : ¬ Ft qi u b) (A : Int) (hx : x = .int .i64 A)
    (hc : Calls Tryz.prog 89 #[.pointer (some ⟨qi, 0, none⟩), x] w.drew fun e w' => e = .returned (.int .i64 E) ∧ Moved w.drew qi 0 u B' bs' k' w') :
    Calls Tryz.prog 88 #[.pointer (some ⟨g, o, none⟩), .pointer (some ⟨b, 0, none⟩)] w fun e w' => e = .returned (.int .i64 E) ∧ Moved w qi 0 u B' bs' k' w' := by
  subst hx
  have hH := hide_it h
  clear h
  go_enter Tryz.func88, Tryz.ntmps88
  go_wp2_with fail
  refine wp_region_held_drew (S := (fun w' => w'.heap[g]? = w.heap[g]? ∧ w'.heap[b]? = w.heap[b]?)) (by kernel_rfl) ?_ (fun hHeld => ?_)
  · exact ⟨rfl, rfl⟩
  refine take_on (i := 0) (v := ?_) rfl rfl (by kernel_rfl) (by kernel_rfl) (by kernel_rfl) (fun _ _ _ h => h) rfl ?_ hHeld ?_
  rotate_left
  · (intro wq hSq; have q0 := (World.cell?_of_block (w := w) (a := ⟨g, o, none⟩) hSq.1).trans hg; have q1 := (World.cell?_of_block (w := w) (a := ⟨b, 0, none⟩) hSq.2).trans hb; go_simp <;> first | with_reducible rfl | rfl)
  simp only [Act.put, List.setIfInBounds_toArray, List.set_cons_zero, List.set_cons_succ]
  refine take_on (i := 1) (v := ?_) rfl rfl (by kernel_rfl) (by kernel_rfl) (by kernel_rfl) (fun _ _ _ h => h) rfl ?_ hHeld ?_
  rotate_left
  · (intro wq hSq; have q0 := (World.cell?_of_block (w := w) (a := ⟨g, o, none⟩) hSq.1).trans hg; have q1 := (World.cell?_of_block (w := w) (a := ⟨b, 0, none⟩) hSq.2).trans hb; go_simp <;> first | with_reducible rfl | rfl)
  simp only [Act.put, List.setIfInBounds_toArray, List.set_cons_zero, List.set_cons_succ]
  refine take_on (i := 2) (v := ?_) rfl rfl (by kernel_rfl) (by kernel_rfl) (by kernel_rfl) (fun _ _ _ h => h) rfl ?_ hHeld ?_
  rotate_left
  · (intro wq hSq; have q0 := (World.cell?_of_block (w := w) (a := ⟨g, o, none⟩) hSq.1).trans hg; have q1 := (World.cell?_of_block (w := w) (a := ⟨b, 0, none⟩) hSq.2).trans hb; go_simp <;> first | with_reducible rfl | rfl)
  simp only [Act.put, List.setIfInBounds_toArray, List.set_cons_zero, List.set_cons_succ]
  refine take_on (i := 3) (v := ?_) rfl rfl (by kernel_rfl) (by kernel_rfl) (by kernel_rfl) (fun _ _ _ h => h) rfl ?_ hHeld ?_
  rotate_left
  · (intro wq hSq; have q0 := (World.cell?_of_block (w := w) (a := ⟨g, o, none⟩) hSq.1).trans hg; have q1 := (World.cell?_of_block (w := w) (a := ⟨b, 0, none⟩) hSq.2).trans hb; go_simp <;> first | with_reducible rfl | rfl)
  simp only [Act.put, List.setIfInBounds_toArray, List.set_cons_zero, List.set_cons_succ]
  refine take_on (i := 4) (v := ?_) rfl rfl (by kernel_rfl) (by kernel_rfl) (by kernel_rfl) (fun _ _ _ h => h) rfl ?_ hHeld ?_
  rotate_left
  · (intro wq hSq; have q0 := (World.cell?_of_block (w := w) (a := ⟨g, o, none⟩) hSq.1).trans hg; have q1 := (World.cell?_of_block (w := w) (a := ⟨b, 0, none⟩) hSq.2).trans hb; go_simp <;> first | with_reducible rfl | rfl)
  simp only [Act.put, List.setIfInBounds_toArray, List.set_cons_zero, List.set_cons_succ]
  refine take_one (i := 5) rfl (by kernel_rfl) (fun K hK => ?_)
  go_simp
  refine hc.mono ?_; rintro e w2 ⟨rfl, hm⟩
  try go_wp2_with fail
  refine hK.out _ _ ?_ (fun hHeld => ?_)
  · exact ⟨hm.chg.block g hgl hgn, hm.chg.block b hbl hbn⟩
  clear hK K
  try simp only [Act.put, List.setIfInBounds_toArray, List.set_cons_zero, List.set_cons_succ]
  refine take_on (i := 6) (v := ?_) rfl rfl (by kernel_rfl) (by kernel_rfl) (by kernel_rfl) (fun _ _ _ h => h) rfl ?_ hHeld ?_
  rotate_left
  · (intro wq hSq; have q0 := (World.cell?_of_block (w := w) (a := ⟨g, o, none⟩) hSq.1).trans hg; have q1 := (World.cell?_of_block (w := w) (a := ⟨b, 0, none⟩) hSq.2).trans hb; go_simp <;> first | with_reducible rfl | rfl)
  simp only [Act.put, List.setIfInBounds_toArray, List.set_cons_zero, List.set_cons_succ]
  refine wpAnyH_done (by kernel_rfl) ?_ _
  go_wp2_with fail
  go_ret
  exact ⟨rfl, Moved.behind hH.out (Below.refl _ _).drew hm⟩

set_option maxRecDepth 100000 in
set_option maxHeartbeats 400000 in
theorem close_trim {g o b qi : Nat} {u : Value} {B : Nat} {bs : List Nat} {k : Nat} {B' : Nat} {bs' : List Nat} {k' : Nat} (x : Value) (E : Int) (w : World) (hg : w.cell? ⟨g, o, none⟩ = some (.pointer (some ⟨qi, 0, none⟩))) (hb : w.cell? ⟨b, 0, none⟩ = some x) (hgl : g < w.heap.size) (hbl : b < w.heap.size) (h : Ar w qi 0 u B bs k) (hgn : ¬ Ft qi u g) (hbn : ¬ Ft qi u b) (A : Int) (hx : x = .int .i64 A)
    (hc : Calls Tryz.prog 87 #[.pointer (some ⟨qi, 0, none⟩), x] w.drew fun e w' => e = .returned (.int .i64 E) ∧ Moved w.drew qi 0 u B' bs' k' w') :
    Calls Tryz.prog 86 #[.pointer (some ⟨g, o, none⟩), .pointer (some ⟨b, 0, none⟩)] w fun e w' => e = .returned (.int .i64 E) ∧ Moved w qi 0 u B' bs' k' w' := by
  subst hx
  have hH := hide_it h
  clear h
  go_enter Tryz.func86, Tryz.ntmps86
  go_wp2_with fail
  refine wp_region_held_drew (S := (fun w' => w'.heap[g]? = w.heap[g]? ∧ w'.heap[b]? = w.heap[b]?)) (by kernel_rfl) ?_ (fun hHeld => ?_)
  · exact ⟨rfl, rfl⟩
  refine take_on (i := 0) (v := ?_) rfl rfl (by kernel_rfl) (by kernel_rfl) (by kernel_rfl) (fun _ _ _ h => h) rfl ?_ hHeld ?_
  rotate_left
  · (intro wq hSq; have q0 := (World.cell?_of_block (w := w) (a := ⟨g, o, none⟩) hSq.1).trans hg; have q1 := (World.cell?_of_block (w := w) (a := ⟨b, 0, none⟩) hSq.2).trans hb; go_simp <;> first | with_reducible rfl | rfl)
  simp only [Act.put, List.setIfInBounds_toArray, List.set_cons_zero, List.set_cons_succ]
  refine take_on (i := 1) (v := ?_) rfl rfl (by kernel_rfl) (by kernel_rfl) (by kernel_rfl) (fun _ _ _ h => h) rfl ?_ hHeld ?_
  rotate_left
  · (intro wq hSq; have q0 := (World.cell?_of_block (w := w) (a := ⟨g, o, none⟩) hSq.1).trans hg; have q1 := (World.cell?_of_block (w := w) (a := ⟨b, 0, none⟩) hSq.2).trans hb; go_simp <;> first | with_reducible rfl | rfl)
  simp only [Act.put, List.setIfInBounds_toArray, List.set_cons_zero, List.set_cons_succ]
  refine take_on (i := 2) (v := ?_) rfl rfl (by kernel_rfl) (by kernel_rfl) (by kernel_rfl) (fun _ _ _ h => h) rfl ?_ hHeld ?_
  rotate_left
  · (intro wq hSq; have q0 := (World.cell?_of_block (w := w) (a := ⟨g, o, none⟩) hSq.1).trans hg; have q1 := (World.cell?_of_block (w := w) (a := ⟨b, 0, none⟩) hSq.2).trans hb; go_simp <;> first | with_reducible rfl | rfl)
  simp only [Act.put, List.setIfInBounds_toArray, List.set_cons_zero, List.set_cons_succ]
  refine take_on (i := 3) (v := ?_) rfl rfl (by kernel_rfl) (by kernel_rfl) (by kernel_rfl) (fun _ _ _ h => h) rfl ?_ hHeld ?_
  rotate_left
  · (intro wq hSq; have q0 := (World.cell?_of_block (w := w) (a := ⟨g, o, none⟩) hSq.1).trans hg; have q1 := (World.cell?_of_block (w := w) (a := ⟨b, 0, none⟩) hSq.2).trans hb; go_simp <;> first | with_reducible rfl | rfl)
  simp only [Act.put, List.setIfInBounds_toArray, List.set_cons_zero, List.set_cons_succ]
  refine take_on (i := 4) (v := ?_) rfl rfl (by kernel_rfl) (by kernel_rfl) (by kernel_rfl) (fun _ _ _ h => h) rfl ?_ hHeld ?_
  rotate_left
  · (intro wq hSq; have q0 := (World.cell?_of_block (w := w) (a := ⟨g, o, none⟩) hSq.1).trans hg; have q1 := (World.cell?_of_block (w := w) (a := ⟨b, 0, none⟩) hSq.2).trans hb; go_simp <;> first | with_reducible rfl | rfl)
  simp only [Act.put, List.setIfInBounds_toArray, List.set_cons_zero, List.set_cons_succ]
  refine take_one (i := 5) rfl (by kernel_rfl) (fun K hK => ?_)
  go_simp
  refine hc.mono ?_; rintro e w2 ⟨rfl, hm⟩
  try go_wp2_with fail
  refine hK.out _ _ ?_ (fun hHeld => ?_)
  · exact ⟨hm.chg.block g hgl hgn, hm.chg.block b hbl hbn⟩
  clear hK K
  try simp only [Act.put, List.setIfInBounds_toArray, List.set_cons_zero, List.set_cons_succ]
  refine take_on (i := 6) (v := ?_) rfl rfl (by kernel_rfl) (by kernel_rfl) (by kernel_rfl) (fun _ _ _ h => h) rfl ?_ hHeld ?_
  rotate_left
  · (intro wq hSq; have q0 := (World.cell?_of_block (w := w) (a := ⟨g, o, none⟩) hSq.1).trans hg; have q1 := (World.cell?_of_block (w := w) (a := ⟨b, 0, none⟩) hSq.2).trans hb; go_simp <;> first | with_reducible rfl | rfl)
  simp only [Act.put, List.setIfInBounds_toArray, List.set_cons_zero, List.set_cons_succ]
  refine wpAnyH_done (by kernel_rfl) ?_ _
  go_wp2_with fail
  go_ret
  exact ⟨rfl, Moved.behind hH.out (Below.refl _ _).drew hm⟩

set_option maxRecDepth 100000 in
set_option maxHeartbeats 400000 in
theorem close_sync {g o qi : Nat} {u : Value} {B : Nat} {bs : List Nat} {k : Nat} (w : World) (hg : w.cell? ⟨g, o, none⟩ = some (.pointer (some ⟨qi, 0, none⟩))) (h : Ar w qi 0 u B bs k) :
    Calls Tryz.prog 95 #[.pointer (some ⟨g, o, none⟩)] w fun e w' => e = .returned (.int .i64 0) ∧ Moved w qi 0 u B bs bs.length w' := by
  have hc := sync_any w h
  have hH := hide_it h
  clear h
  go_enter Tryz.func95, Tryz.ntmps95
  go_wp2_with fail
  refine hc.mono ?_
  rintro e w2 ⟨rfl, hm⟩
  go_wp2_with fail
  go_ret
  exact ⟨rfl, hm⟩

/-- The cells of an area of the disk in a world behind. -/
theorem Dk.later (h : Dk w F p am n s g C q v) {w1 : World} (hb : Below w.heap.size w w1) {i : Nat} (hi : i < n) : w1.cell? ⟨g, i * 5, none⟩ = some (.pointer (some ⟨q i, 0, none⟩)) ∧ g < w1.heap.size ∧ Ar w1 (q i) 0 (v i) (s i).B (s i).bs (s i).k ∧ ¬ Ft (q i) (v i) g :=
  ⟨((h.below hb).at_ hi).1, (h.below hb).glt, (h.ar i hi).below hb, (h.sep i hi).2⟩

set_option maxRecDepth 100000 in
set_option maxHeartbeats 800000 in
theorem append_box {E : Int} {s' : Nat → Pt} (hF : ∀ j, F j → j < w.heap.size) (i : Nat) (x : Value) (a : Option Addr) (l c : Nat) (hx : x = .slice a l c)
    (ho : Calls Tryz.prog 68 #[.pointer (some ⟨p, 0, none⟩), .int .i64 (i : Int), .func (.func 69) #[] #[.pointer (some ⟨w.heap.size, 0, none⟩)]] (w.alloc (.cells #[x] 39)) fun e w' => Opd (w.alloc (.cells #[x] 39)) F p am n s' E e w') :
    Calls Tryz.prog 46 #[.pointer (some ⟨p, 0, none⟩), .int .i64 (i : Int), x] w fun e w' => Opd w F p am n s' E e w' := by
  have hb0 : Below w.heap.size w (w.alloc (.cells #[x] 39)) := (Below.refl _ _).alloc (Nat.le_refl _) _
  have hmf : ∀ (fn : Fn) (first cap : Array Value) (w : World), (Instr.makeFunc fn first cap).run Tryz.prog w = .ok (.func fn first cap) w := fun _ _ _ _ => rfl
  subst hx
  go_enter Tryz.func46, Tryz.ntmps46
  go_wp2_with fail
  refine ho.mono ?_
  rintro e w2 ⟨rfl, hw⟩
  go_wp2_with fail
  go_ret
  exact ⟨rfl, Went.behind hb0 hw hF⟩

set_option maxRecDepth 100000 in
set_option maxHeartbeats 800000 in
theorem cut_box {E : Int} {s' : Nat → Pt} (hF : ∀ j, F j → j < w.heap.size) (i : Nat) (x : Value) (A : Int) (hx : x = .int .i64 A)
    (ho : Calls Tryz.prog 68 #[.pointer (some ⟨p, 0, none⟩), .int .i64 (i : Int), .func (.func 88) #[] #[.pointer (some ⟨w.heap.size, 0, none⟩)]] (w.alloc (.cells #[x] 3)) fun e w' => Opd (w.alloc (.cells #[x] 3)) F p am n s' E e w') :
    Calls Tryz.prog 60 #[.pointer (some ⟨p, 0, none⟩), .int .i64 (i : Int), x] w fun e w' => Opd w F p am n s' E e w' := by
  have hb0 : Below w.heap.size w (w.alloc (.cells #[x] 3)) := (Below.refl _ _).alloc (Nat.le_refl _) _
  have hmf : ∀ (fn : Fn) (first cap : Array Value) (w : World), (Instr.makeFunc fn first cap).run Tryz.prog w = .ok (.func fn first cap) w := fun _ _ _ _ => rfl
  subst hx
  go_enter Tryz.func60, Tryz.ntmps60
  go_wp2_with fail
  refine ho.mono ?_
  rintro e w2 ⟨rfl, hw⟩
  go_wp2_with fail
  go_ret
  exact ⟨rfl, Went.behind hb0 hw hF⟩

set_option maxRecDepth 100000 in
set_option maxHeartbeats 800000 in
theorem trim_box {E : Int} {s' : Nat → Pt} (hF : ∀ j, F j → j < w.heap.size) (i : Nat) (x : Value) (A : Int) (hx : x = .int .i64 A)
    (ho : Calls Tryz.prog 68 #[.pointer (some ⟨p, 0, none⟩), .int .i64 (i : Int), .func (.func 86) #[] #[.pointer (some ⟨w.heap.size, 0, none⟩)]] (w.alloc (.cells #[x] 3)) fun e w' => Opd (w.alloc (.cells #[x] 3)) F p am n s' E e w') :
    Calls Tryz.prog 59 #[.pointer (some ⟨p, 0, none⟩), .int .i64 (i : Int), x] w fun e w' => Opd w F p am n s' E e w' := by
  have hb0 : Below w.heap.size w (w.alloc (.cells #[x] 3)) := (Below.refl _ _).alloc (Nat.le_refl _) _
  have hmf : ∀ (fn : Fn) (first cap : Array Value) (w : World), (Instr.makeFunc fn first cap).run Tryz.prog w = .ok (.func fn first cap) w := fun _ _ _ _ => rfl
  subst hx
  go_enter Tryz.func59, Tryz.ntmps59
  go_wp2_with fail
  refine ho.mono ?_
  rintro e w2 ⟨rfl, hw⟩
  go_wp2_with fail
  go_ret
  exact ⟨rfl, Went.behind hb0 hw hF⟩

end

end Go.Proofs.YtkacfpmninmjkaaGreat

namespace Go.Proofs.YtkacfpmninmjkaaGreat
open Go.RowKit

section
variable {w : World} {F : Nat → Prop} {p : Nat} {am : Bool} {n : Nat} {s : Nat → Pt}

theorem opAppend (h : Dsk w F p am n s) (i : Nat) (hi : i < n) (A : Int) (a : Option Addr) (cap : Nat) (zs : List Nat) (hr : RowB w a zs) (h8 : All8 zs) (hnil : a = none → zs.length = 0 ∧ cap = 0) (hl : (s i).bs.length + zs.length ≤ 211106232532800) (hB : (s i).B + (s i).bs.length + zs.length ≤ 9223372036854775807) (hcb : (s i).c ≤ 4611686018427387904) :
    Calls Tryz.prog 46 #[.pointer (some ⟨p, 0, none⟩), .int .i64 (i : Int), .slice a zs.length cap] w fun e w' => Opd w F p am n (upd s i (opS am (s i) 0 A zs).2) (opS am (s i) 0 A zs).1 e w' := by
  have hD := h
  obtain ⟨g, C, q, v, h⟩ := h
  have hb0 : Below w.heap.size w (w.alloc (.cells #[.slice a zs.length cap] 39)) := (Below.refl _ _).alloc (Nat.le_refl _) _
  have h0 := h.below hb0
  have hbx : (w.alloc (.cells #[.slice a zs.length cap] 39)).cell? ⟨w.heap.size, 0, none⟩ = some (.slice a zs.length cap) := cell_of_row _ _ _ _ _ _ (heap_alloc_new w _)
  have hbl : w.heap.size < (w.alloc (.cells #[.slice a zs.length cap] 39)).heap.size := by simp
  have hbn : ¬ Ft (q i) (v i) w.heap.size := fun hx => by have := (h.ar i hi).inside _ hx; omega
  refine append_box hD.lt i (.slice a zs.length cap) a zs.length cap rfl ?_
  obtain ⟨W, hW⟩ : ∃ W, W = w.alloc (.cells #[.slice a zs.length cap] 39) := ⟨_, rfl⟩
  rw [← hW] at h0 hbx hbl hb0 ⊢
  clear hW
  unfold opS
  by_cases hdn : down am (s i) = true
  · rw [if_pos hdn, upd_self]
    exact (operate_down h0 i hi _ hdn).mono fun e w' hq => Opd.of_below ⟨_, _, _, _, h0⟩ hq.1 hq.2
  · rw [if_neg hdn]
    have hdf : down am (s i) = false := by simpa using hdn
    unfold opX
    exact operate_append h0 i hi _ hdf hcb (s i).B ((s i).bs ++ zs) (s i).k (by have := h.le i hi; rw [List.length_append]; omega) (fun w1 hb => by
      obtain ⟨k1, k2, k3, k4⟩ := h0.later hb hi
      have hr1 := hr.below (hb0.trans (hb.mono hb0.size))
      exact close_append _ 0 w1 k1 ((hb.cell (p := ⟨w.heap.size, 0, none⟩) hbl).trans hbx) k2 (Nat.lt_of_lt_of_le hbl hb.size) k3 k4 hbn a zs.length cap rfl (append_any _ k3.drew a cap zs (hr1.below (Below.refl _ _).drew) h8 hnil hl hB))

theorem opCut (h : Dsk w F p am n s) (i : Nat) (hi : i < n) (A : Int) (zs : List Nat) (hcb : (s i).c ≤ 4611686018427387904) :
    Calls Tryz.prog 60 #[.pointer (some ⟨p, 0, none⟩), .int .i64 (i : Int), .int .i64 A] w fun e w' => Opd w F p am n (upd s i (opS am (s i) 2 A zs).2) (opS am (s i) 2 A zs).1 e w' := by
  have hD := h
  obtain ⟨g, C, q, v, h⟩ := h
  have hb0 : Below w.heap.size w (w.alloc (.cells #[.int .i64 A] 3)) := (Below.refl _ _).alloc (Nat.le_refl _) _
  have h0 := h.below hb0
  have hbx : (w.alloc (.cells #[.int .i64 A] 3)).cell? ⟨w.heap.size, 0, none⟩ = some (.int .i64 A) := cell_of_row _ _ _ _ _ _ (heap_alloc_new w _)
  have hbl : w.heap.size < (w.alloc (.cells #[.int .i64 A] 3)).heap.size := by simp
  have hbn : ¬ Ft (q i) (v i) w.heap.size := fun hx => by have := (h.ar i hi).inside _ hx; omega
  refine cut_box hD.lt i (.int .i64 A) A rfl ?_
  obtain ⟨W, hW⟩ : ∃ W, W = w.alloc (.cells #[.int .i64 A] 3) := ⟨_, rfl⟩
  rw [← hW] at h0 hbx hbl hb0 ⊢
  clear hW
  unfold opS
  by_cases hdn : down am (s i) = true
  · rw [if_pos hdn, upd_self]
    exact (operate_down h0 i hi _ hdn).mono fun e w' hq => Opd.of_below ⟨_, _, _, _, h0⟩ hq.1 hq.2
  · rw [if_neg hdn]
    have hdf : down am (s i) = false := by simpa using hdn
    unfold opX
    simp only [reduceIte, Nat.reduceEqDiff]
    by_cases hA : A < ((s i).B : Int) ∨ ((s i).B : Int) + ((s i).bs.length : Int) < A
    · rw [if_pos hA]
      show Calls _ _ _ _ fun e w' => Opd W F p am n (upd s i (s i)) 70 e w'
      rw [upd_self]
      exact operate_cut_no h0 i hi _ hdf (fun w1 hb => by
        obtain ⟨k1, k2, k3, k4⟩ := h0.later hb hi
        exact close_cut _ 70 w1 k1 ((hb.cell (p := ⟨w.heap.size, 0, none⟩) hbl).trans hbx) k2 (Nat.lt_of_lt_of_le hbl hb.size) k3 k4 hbn A rfl (cut_no _ k3.drew A hA))
    · rw [if_neg hA]
      obtain ⟨m, hm⟩ : ∃ m, m = (A - ((s i).B : Int)).toNat := ⟨_, rfl⟩
      rw [← hm]
      have hle := h.le i hi
      exact operate_cut h0 i hi _ hdf hcb ((s i).B) ((s i).bs.take m) (min (s i).k m) (by simp; omega) (fun w1 hb => by
        obtain ⟨k1, k2, k3, k4⟩ := h0.later hb hi
        exact close_cut _ 0 w1 k1 ((hb.cell (p := ⟨w.heap.size, 0, none⟩) hbl).trans hbx) k2 (Nat.lt_of_lt_of_le hbl hb.size) k3 k4 hbn A rfl (cut_ok _ k3.drew m (by omega) A (by omega)))

theorem opTrim (h : Dsk w F p am n s) (i : Nat) (hi : i < n) (A : Int) (zs : List Nat) (hcb : (s i).c ≤ 4611686018427387904) :
    Calls Tryz.prog 59 #[.pointer (some ⟨p, 0, none⟩), .int .i64 (i : Int), .int .i64 A] w fun e w' => Opd w F p am n (upd s i (opS am (s i) 3 A zs).2) (opS am (s i) 3 A zs).1 e w' := by
  have hD := h
  obtain ⟨g, C, q, v, h⟩ := h
  have hb0 : Below w.heap.size w (w.alloc (.cells #[.int .i64 A] 3)) := (Below.refl _ _).alloc (Nat.le_refl _) _
  have h0 := h.below hb0
  have hbx : (w.alloc (.cells #[.int .i64 A] 3)).cell? ⟨w.heap.size, 0, none⟩ = some (.int .i64 A) := cell_of_row _ _ _ _ _ _ (heap_alloc_new w _)
  have hbl : w.heap.size < (w.alloc (.cells #[.int .i64 A] 3)).heap.size := by simp
  have hbn : ¬ Ft (q i) (v i) w.heap.size := fun hx => by have := (h.ar i hi).inside _ hx; omega
  refine trim_box hD.lt i (.int .i64 A) A rfl ?_
  obtain ⟨W, hW⟩ : ∃ W, W = w.alloc (.cells #[.int .i64 A] 3) := ⟨_, rfl⟩
  rw [← hW] at h0 hbx hbl hb0 ⊢
  clear hW
  unfold opS
  by_cases hdn : down am (s i) = true
  · rw [if_pos hdn, upd_self]
    exact (operate_down h0 i hi _ hdn).mono fun e w' hq => Opd.of_below ⟨_, _, _, _, h0⟩ hq.1 hq.2
  · rw [if_neg hdn]
    have hdf : down am (s i) = false := by simpa using hdn
    unfold opX
    simp only [reduceIte, Nat.reduceEqDiff]
    by_cases hA : A < ((s i).B : Int) ∨ ((s i).B : Int) + ((s i).k : Int) < A
    · rw [if_pos hA]
      show Calls _ _ _ _ fun e w' => Opd W F p am n (upd s i (s i)) 70 e w'
      rw [upd_self]
      exact operate_trim_no h0 i hi _ hdf (fun w1 hb => by
        obtain ⟨k1, k2, k3, k4⟩ := h0.later hb hi
        exact close_trim _ 70 w1 k1 ((hb.cell (p := ⟨w.heap.size, 0, none⟩) hbl).trans hbx) k2 (Nat.lt_of_lt_of_le hbl hb.size) k3 k4 hbn A rfl (trim_no _ k3.drew (h.le i hi) A hA))
    · rw [if_neg hA]
      obtain ⟨m, hm⟩ : ∃ m, m = (A - ((s i).B : Int)).toNat := ⟨_, rfl⟩
      rw [← hm]
      have hle := h.le i hi
      exact operate_trim h0 i hi _ hdf hcb ((s i).B + m) ((s i).bs.drop m) ((s i).k - m) (by simp; omega) (fun w1 hb => by
        obtain ⟨k1, k2, k3, k4⟩ := h0.later hb hi
        exact close_trim _ 0 w1 k1 ((hb.cell (p := ⟨w.heap.size, 0, none⟩) hbl).trans hbx) k2 (Nat.lt_of_lt_of_le hbl hb.size) k3 k4 hbn A rfl (trim_ok _ k3.drew hle m (by omega) A (by omega)))

set_option maxRecDepth 100000 in
set_option maxHeartbeats 800000 in
theorem opSync (h : Dsk w F p am n s) (i : Nat) (hi : i < n) (A : Int) (zs : List Nat) (hcb : (s i).c ≤ 4611686018427387904) :
    Calls Tryz.prog 67 #[.pointer (some ⟨p, 0, none⟩), .int .i64 (i : Int)] w fun e w' => Opd w F p am n (upd s i (opS am (s i) 1 A zs).2) (opS am (s i) 1 A zs).1 e w' := by
  have ho : Calls Tryz.prog 68 #[.pointer (some ⟨p, 0, none⟩), .int .i64 (i : Int), .func (.func 95) #[] #[]] w fun e w' => Opd w F p am n (upd s i (opS am (s i) 1 A zs).2) (opS am (s i) 1 A zs).1 e w' := by
    obtain ⟨g, C, q, v, h⟩ := h
    unfold opS
    by_cases hdn : down am (s i) = true
    · rw [if_pos hdn, upd_self]
      exact (operate_down h i hi _ hdn).mono fun e w' hq => Opd.of_below ⟨_, _, _, _, h⟩ hq.1 hq.2
    · rw [if_neg hdn]
      have hdf : down am (s i) = false := by simpa using hdn
      exact operate_sync h i hi hdf hcb (s i).B (s i).bs (s i).bs.length (Nat.le_refl _) (fun w1 hb => by
        obtain ⟨k1, k2, k3, k4⟩ := h.later hb hi
        exact close_sync w1 k1 k3)
  obtain ⟨S', hS'⟩ : ∃ S', S' = upd s i (opS am (s i) 1 A zs).2 := ⟨_, rfl⟩
  obtain ⟨E', hE'⟩ : ∃ E', E' = (opS am (s i) 1 A zs).1 := ⟨_, rfl⟩
  rw [← hS', ← hE'] at ho ⊢
  clear hS' hE' h
  go_enter Tryz.func67, Tryz.ntmps67
  go_wp2_with fail
  refine ho.mono ?_
  rintro e w2 ⟨rfl, hw⟩
  go_wp2_with fail
  go_ret
  exact ⟨rfl, hw⟩
end

/-! ### of an area that is not there -/
set_option maxRecDepth 100000 in
set_option maxHeartbeats 800000 in
theorem append_none (pv : Value) (E0 : Int) (hE0 : E0 ≠ 0) (I : Int) (a : Option Addr) (l c : Nat) (w : World) (hp : ∀ w1, Below w.heap.size w w1 → Calls Tryz.prog 49 #[pv, .int .i64 I] w1 fun e w' => e = .returned (.tuple #[.pointer none, .int .i64 E0]) ∧ w' = w1) :
    Calls Tryz.prog 46 #[pv, .int .i64 I, .slice a l c] w fun e w' => e = .returned (.int .i64 E0) ∧ Below w.heap.size w w' := by
  have hb0 : Below w.heap.size w (w.alloc (.cells #[.slice a l c] 39)) := (Below.refl _ _).alloc (Nat.le_refl _) _
  have ho := fun fv => operate_none pv fv E0 hE0 I _ (hp _ hb0)
  clear hp
  have hmf : ∀ (fn : Fn) (first cap : Array Value) (w : World), (Instr.makeFunc fn first cap).run Tryz.prog w = .ok (.func fn first cap) w := fun _ _ _ _ => rfl
  go_enter Tryz.func46, Tryz.ntmps46
  go_wp2_with fail
  refine (ho _).mono ?_
  rintro e w2 ⟨rfl, hw⟩
  rw [hw]
  clear hw
  go_wp2_with fail
  go_ret
  exact ⟨rfl, hb0⟩

set_option maxRecDepth 100000 in
set_option maxHeartbeats 800000 in
theorem cut_none (pv : Value) (E0 : Int) (hE0 : E0 ≠ 0) (I : Int) (A : Int) (w : World) (hp : ∀ w1, Below w.heap.size w w1 → Calls Tryz.prog 49 #[pv, .int .i64 I] w1 fun e w' => e = .returned (.tuple #[.pointer none, .int .i64 E0]) ∧ w' = w1) :
    Calls Tryz.prog 60 #[pv, .int .i64 I, .int .i64 A] w fun e w' => e = .returned (.int .i64 E0) ∧ Below w.heap.size w w' := by
  have hb0 : Below w.heap.size w (w.alloc (.cells #[.int .i64 A] 3)) := (Below.refl _ _).alloc (Nat.le_refl _) _
  have ho := fun fv => operate_none pv fv E0 hE0 I _ (hp _ hb0)
  clear hp
  have hmf : ∀ (fn : Fn) (first cap : Array Value) (w : World), (Instr.makeFunc fn first cap).run Tryz.prog w = .ok (.func fn first cap) w := fun _ _ _ _ => rfl
  go_enter Tryz.func60, Tryz.ntmps60
  go_wp2_with fail
  refine (ho _).mono ?_
  rintro e w2 ⟨rfl, hw⟩
  rw [hw]
  clear hw
  go_wp2_with fail
  go_ret
  exact ⟨rfl, hb0⟩

set_option maxRecDepth 100000 in
set_option maxHeartbeats 800000 in
theorem trim_none (pv : Value) (E0 : Int) (hE0 : E0 ≠ 0) (I : Int) (A : Int) (w : World) (hp : ∀ w1, Below w.heap.size w w1 → Calls Tryz.prog 49 #[pv, .int .i64 I] w1 fun e w' => e = .returned (.tuple #[.pointer none, .int .i64 E0]) ∧ w' = w1) :
    Calls Tryz.prog 59 #[pv, .int .i64 I, .int .i64 A] w fun e w' => e = .returned (.int .i64 E0) ∧ Below w.heap.size w w' := by
  have hb0 : Below w.heap.size w (w.alloc (.cells #[.int .i64 A] 3)) := (Below.refl _ _).alloc (Nat.le_refl _) _
  have ho := fun fv => operate_none pv fv E0 hE0 I _ (hp _ hb0)
  clear hp
  have hmf : ∀ (fn : Fn) (first cap : Array Value) (w : World), (Instr.makeFunc fn first cap).run Tryz.prog w = .ok (.func fn first cap) w := fun _ _ _ _ => rfl
  go_enter Tryz.func59, Tryz.ntmps59
  go_wp2_with fail
  refine (ho _).mono ?_
  rintro e w2 ⟨rfl, hw⟩
  rw [hw]
  clear hw
  go_wp2_with fail
  go_ret
  exact ⟨rfl, hb0⟩

set_option maxRecDepth 100000 in
set_option maxHeartbeats 800000 in
theorem sync_none (pv : Value) (E0 : Int) (hE0 : E0 ≠ 0) (I : Int) (w : World) (hp : ∀ w1, Below w.heap.size w w1 → Calls Tryz.prog 49 #[pv, .int .i64 I] w1 fun e w' => e = .returned (.tuple #[.pointer none, .int .i64 E0]) ∧ w' = w1) :
    Calls Tryz.prog 67 #[pv, .int .i64 I] w fun e w' => e = .returned (.int .i64 E0) ∧ Below w.heap.size w w' := by
  have ho := fun fv => operate_none pv fv E0 hE0 I _ (hp _ (Below.refl _ _))
  clear hp
  go_enter Tryz.func67, Tryz.ntmps67
  go_wp2_with fail
  refine (ho _).mono ?_
  rintro e w2 ⟨rfl, hw⟩
  rw [hw]
  clear hw
  go_wp2_with fail
  go_ret
  exact ⟨rfl, Below.refl _ _⟩

end Go.Proofs.YtkacfpmninmjkaaGreat
