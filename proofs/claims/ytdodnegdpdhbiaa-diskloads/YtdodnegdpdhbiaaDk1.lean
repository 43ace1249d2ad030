/- A disk in memory: two cells, a row of five cells an area, the areas; what a call may change. -/
import Derived.Test.YtdodnegdpdhbiaaAr6
namespace Go.Proofs.Ytdodnegdpdhbiaa
open Go.RowKit

/-- The blocks of F and those that were made since. -/
def upto (F : Nat → Prop) (w w' : World) (j : Nat) : Prop := F j ∨ (w.heap.size ≤ j ∧ j < w'.heap.size)

/-- An area of a disk: its base, its bytes, how many of them are safe; its fate; its count. -/
structure Pt where
  B : Nat
  bs : List Nat
  k : Nat
  fd : Int
  fk : Int
  ft : Nat
  c : Nat

/-- One of them otherwise. -/
def upd (s : Nat → Pt) (i : Nat) (x : Pt) (j : Nat) : Pt := if j = i then x else s j
theorem upd_at (s : Nat → Pt) (i : Nat) (x : Pt) : upd s i x i = x := if_pos rfl
theorem upd_ne (s : Nat → Pt) (i : Nat) (x : Pt) {j : Nat} (h : j ≠ i) : upd s i x j = s j := if_neg h
theorem upd_upd (s : Nat → Pt) (i : Nat) (x y : Pt) : upd (upd s i x) i y = upd s i y := by
  funext j; unfold upd; split <;> rfl
theorem upd_self (s : Nat → Pt) (i : Nat) : upd s i (s i) = s := by
  funext j; unfold upd; split
  · next h => rw [h]
  · rfl

/-- The five cells of an area of a disk. -/
structure Five (C : Array Value) (i q : Nat) (x : Pt) : Prop where
  c0 : C[i * 5]? = some (.pointer (some ⟨q, 0, none⟩))
  c1 : C[i * 5 + 1]? = some (.int .i64 x.fd)
  c2 : C[i * 5 + 2]? = some (.int .i64 x.fk)
  c3 : C[i * 5 + 3]? = some (.int .u8 (x.ft : Int))
  c4 : C[i * 5 + 4]? = some (.int .i64 (x.c : Int))

/-- In block p lies a disk with n areas, which are as s says; g: the block of its parts, C their cells; q, v: the areas' blocks and slices; F: the blocks that are the disk's. -/
structure Dk (w : World) (F : Nat → Prop) (p : Nat) (am : Bool) (n : Nat) (s : Nat → Pt) (g : Nat) (C : Array Value) (q : Nat → Nat) (v : Nat → Value) : Prop where
  blk : w.heap[p]? = some (.cells #[.bool am, .slice (some ⟨g, 0, none⟩) n n] 113 (0, 0))
  row : w.heap[g]? = some (.cells C 111 (0, 0))
  few : 1 ≤ n ∧ n ≤ 16
  five : ∀ i, i < n → Five C i (q i) (s i)
  ar : ∀ i, i < n → Ar w (q i) 0 (v i) (s i).B (s i).bs (s i).k
  le : ∀ i, i < n → (s i).k ≤ (s i).bs.length
  ft : ∀ i, i < n → (s i).ft < 256
  pg : p ≠ g
  sep : ∀ i, i < n → ¬ Ft (q i) (v i) p ∧ ¬ Ft (q i) (v i) g
  apart : ∀ i j, i < n → j < n → i ≠ j → ∀ b, Ft (q i) (v i) b → ¬ Ft (q j) (v j) b
  foot : ∀ b, (b = p ∨ b = g ∨ ∃ i, i < n ∧ Ft (q i) (v i) b) → F b
  lt : ∀ b, F b → b < w.heap.size

section
variable {w w' : World} {F G : Nat → Prop} {p : Nat} {am : Bool} {n : Nat} {s : Nat → Pt} {g : Nat} {C : Array Value} {q : Nat → Nat} {v : Nat → Value}
theorem Dk.plt (h : Dk w F p am n s g C q v) : p < w.heap.size := (Array.getElem?_eq_some_iff.1 h.blk).1
theorem Dk.glt (h : Dk w F p am n s g C q v) : g < w.heap.size := (Array.getElem?_eq_some_iff.1 h.row).1
theorem Dk.cells (h : Dk w F p am n s g C q v) : w.cell? ⟨p, 0, none⟩ = some (.bool am) ∧ w.cell? ⟨p, 1, none⟩ = some (.slice (some ⟨g, 0, none⟩) n n) ∧ w.frozen? ⟨p, 0, none⟩ = false :=
  ⟨cell_of_row _ _ _ _ _ _ h.blk, cell_of_row _ _ _ _ _ _ h.blk, frozen_of_row _ _ _ _ _ h.blk⟩
theorem Dk.at_ (h : Dk w F p am n s g C q v) {i : Nat} (hi : i < n) : w.cell? ⟨g, i * 5, none⟩ = some (.pointer (some ⟨q i, 0, none⟩)) ∧ w.cell? ⟨g, i * 5 + 1, none⟩ = some (.int .i64 (s i).fd) ∧ w.cell? ⟨g, i * 5 + 2, none⟩ = some (.int .i64 (s i).fk) ∧
    w.cell? ⟨g, i * 5 + 3, none⟩ = some (.int .u8 ((s i).ft : Int)) ∧ w.cell? ⟨g, i * 5 + 4, none⟩ = some (.int .i64 ((s i).c : Int)) ∧ ∀ o, w.frozen? ⟨g, o, none⟩ = false := by
  obtain ⟨c0, c1, c2, c3, c4⟩ := h.five i hi
  exact ⟨(cell_of_row _ _ _ _ _ _ h.row).trans c0, (cell_of_row _ _ _ _ _ _ h.row).trans c1, (cell_of_row _ _ _ _ _ _ h.row).trans c2, (cell_of_row _ _ _ _ _ _ h.row).trans c3, (cell_of_row _ _ _ _ _ _ h.row).trans c4, fun o => frozen_of_row _ _ _ _ _ h.row⟩
theorem Dk.keep (h : Dk w F p am n s g C q v) (hs : w.heap.size ≤ w'.heap.size) (hk : ∀ b, F b → w'.heap[b]? = w.heap[b]?) : Dk w' F p am n s g C q v :=
  ⟨(hk p (h.foot p (.inl rfl))).trans h.blk, (hk g (h.foot g (.inr (.inl rfl)))).trans h.row, h.few, h.five,
    fun i hi => (h.ar i hi).keep (hk _ (h.foot _ (.inr (.inr ⟨i, hi, .inl rfl⟩)))) (fun j hj => hk j (h.foot j (.inr (.inr ⟨i, hi, .inr hj⟩)))), h.le, h.ft, h.pg, h.sep, h.apart, h.foot, fun b hb => Nat.lt_of_lt_of_le (h.lt b hb) hs⟩
theorem Dk.below (h : Dk w F p am n s g C q v) (hb : Below w.heap.size w w') : Dk w' F p am n s g C q v := h.keep hb.size fun b hF => hb.block b (h.lt b hF)
theorem Dk.chg (h : Dk w F p am n s g C q v) (hc : Chg G w w') (hd : ∀ b, F b → ¬ G b) : Dk w' F p am n s g C q v := h.keep hc.size fun b hF => hc.block b (h.lt b hF) (hd b hF)
theorem Dk.drew (h : Dk w F p am n s g C q v) : Dk w.drew F p am n s g C q v := h.keep (Nat.le_refl _) fun _ _ => rfl
theorem Dk.mono (h : Dk w F p am n s g C q v) (hF : ∀ b, F b → G b) (hG : ∀ b, G b → b < w.heap.size) : Dk w G p am n s g C q v :=
  ⟨h.blk, h.row, h.few, h.five, h.ar, h.le, h.ft, h.pg, h.sep, h.apart, fun b hb => hF b (h.foot b hb), hG⟩
/-- A call of the area i. -/
theorem Dk.moved (h : Dk w F p am n s g C q v) {i : Nat} (hi : i < n) {B' : Nat} {bs' : List Nat} {k' : Nat} (hm : Moved w (q i) 0 (v i) B' bs' k' w') (hk : k' ≤ bs'.length) :
    (∃ v', Dk w' (upto F w w') p am n (upd s i { s i with B := B', bs := bs', k := k' }) g C q v') ∧ Chg F w w' := by
  obtain ⟨⟨u, h1, h2⟩, hc, _⟩ := hm
  have hF : ∀ b, Ft (q i) (v i) b → F b := fun b hb => h.foot b (.inr (.inr ⟨i, hi, hb⟩))
  have hcF : Chg F w w' := hc.mono fun b _ hb => hF b hb
  have hft : ∀ b, Ft (q i) u b → Ft (q i) (v i) b ∨ (w.heap.size ≤ b ∧ b < w'.heap.size) := fun b hb => by
    have hin := h1.inside b hb
    rcases hb with rfl | hb
    · exact .inl (.inl rfl)
    · rcases h2 with h2 | h2
      · exact .inl (.inr (h2 ▸ hb))
      · exact .inr ⟨h2 b hb, hin⟩
  refine ⟨⟨fun j => if j = i then u else v j, (hc.block p h.plt (h.sep i hi).1).trans h.blk, (hc.block g h.glt (h.sep i hi).2).trans h.row, h.few, ?_, ?_, ?_, ?_, h.pg, ?_, ?_, ?_, ?_⟩, hcF⟩
  · intro j hj
    by_cases e : j = i
    · subst e
      rw [upd_at]
      obtain ⟨c0, c1, c2, c3, c4⟩ := h.five j hj
      exact ⟨c0, c1, c2, c3, c4⟩
    · rw [upd_ne _ _ _ e]; exact h.five j hj
  · intro j hj
    by_cases e : j = i
    · subst e
      rw [upd_at, if_pos rfl]; exact h1
    · rw [upd_ne _ _ _ e, if_neg e]
      exact (h.ar j hj).chg hc (fun b hb => h.apart j i hj hi e b hb)
  · intro j hj
    by_cases e : j = i
    · subst e; rw [upd_at]; exact hk
    · rw [upd_ne _ _ _ e]; exact h.le j hj
  · intro j hj
    by_cases e : j = i
    · subst e; rw [upd_at]; exact h.ft j hj
    · rw [upd_ne _ _ _ e]; exact h.ft j hj
  · intro j hj
    by_cases e : j = i
    · subst e
      rw [if_pos rfl]
      refine ⟨fun h4 => ?_, fun h4 => ?_⟩
      · rcases hft _ h4 with h5 | h5
        · exact (h.sep j hj).1 h5
        · have := h.plt; omega
      · rcases hft _ h4 with h5 | h5
        · exact (h.sep j hj).2 h5
        · have := h.glt; omega
    · rw [if_neg e]; exact h.sep j hj
  · intro a b ha hb hab c hc1 hc2
    have hin : ∀ j, j < n → Ft (q j) (v j) c → c < w.heap.size := fun j hj hx => (h.ar j hj).inside c hx
    by_cases ea : a = i
    · have eb : b ≠ i := fun e => hab (by omega)
      rw [if_pos ea] at hc1
      rw [if_neg eb] at hc2
      subst ea
      rcases hft c hc1 with h5 | h5
      · exact h.apart a b ha hb hab c h5 hc2
      · have := hin b hb hc2; omega
    · rw [if_neg ea] at hc1
      by_cases eb : b = i
      · rw [if_pos eb] at hc2
        subst eb
        rcases hft c hc2 with h5 | h5
        · exact h.apart a b ha hb hab c hc1 h5
        · have := hin a ha hc1; omega
      · rw [if_neg eb] at hc2
        exact h.apart a b ha hb hab c hc1 hc2
  · intro b hb
    rcases hb with rfl | rfl | ⟨j, hj, hb⟩
    · exact .inl (h.foot _ (.inl rfl))
    · exact .inl (h.foot _ (.inr (.inl rfl)))
    · by_cases e : j = i
      · rw [if_pos e] at hb
        subst e
        rcases hft b hb with h5 | h5
        · exact .inl (hF b h5)
        · exact .inr h5
      · rw [if_neg e] at hb
        exact .inl (h.foot b (.inr (.inr ⟨j, hj, hb⟩)))
  · intro b hb
    rcases hb with hb | hb
    · have := h.lt b hb; have := hcF.size; omega
    · exact hb.2
/-- Other cells in the row of parts: the pointers stay. -/
theorem Dk.cells_to (h : Dk w F p am n s g C q v) {C' : Array Value} {s' : Nat → Pt} (hs : w.heap.size ≤ w'.heap.size) (hg : w'.heap[g]? = some (.cells C' 111 (0, 0))) (hk : ∀ b, F b → b ≠ g → w'.heap[b]? = w.heap[b]?)
    (h5 : ∀ i, i < n → Five C' i (q i) (s' i)) (hsm : ∀ i, i < n → (s' i).B = (s i).B ∧ (s' i).bs = (s i).bs ∧ (s' i).k = (s i).k ∧ (s' i).ft < 256) : Dk w' F p am n s' g C' q v := by
  have hne : ∀ i, i < n → ∀ b, Ft (q i) (v i) b → b ≠ g := fun i hi b hb e => (h.sep i hi).2 (e ▸ hb)
  refine ⟨(hk p (h.foot p (.inl rfl)) h.pg).trans h.blk, hg, h.few, h5, fun i hi => ?_, fun i hi => ?_, fun i hi => (hsm i hi).2.2.2, h.pg, h.sep, h.apart, h.foot, fun b hb => Nat.lt_of_lt_of_le (h.lt b hb) hs⟩
  · obtain ⟨e1, e2, e3, _⟩ := hsm i hi
    rw [e1, e2, e3]
    exact (h.ar i hi).keep (hk _ (h.foot _ (.inr (.inr ⟨i, hi, .inl rfl⟩))) (hne i hi _ (.inl rfl))) (fun j hj => hk j (h.foot j (.inr (.inr ⟨i, hi, .inr hj⟩))) (hne i hi _ (.inr hj)))
  · obtain ⟨e1, e2, e3, _⟩ := hsm i hi
    rw [e2, e3]
    exact h.le i hi
theorem Five.set_ne {i j q : Nat} {x : Pt} {o : Nat} {u : Value} (h : Five C j q x) (hne : o < j * 5 ∨ j * 5 + 5 ≤ o) (_hi : i = i) : Five (C.setIfInBounds o u) j q x := by
  obtain ⟨c0, c1, c2, c3, c4⟩ := h
  refine ⟨?_, ?_, ?_, ?_, ?_⟩ <;> (rw [Array.getElem?_setIfInBounds_ne (by omega)]; assumption)
/-- The count of the area i, one more. -/
theorem Dk.count (h : Dk w F p am n s g C q v) {i : Nat} (hi : i < n) (c' : Nat) : ∃ C', Dk (w.setCell ⟨g, i * 5 + 4, none⟩ (.int .i64 (c' : Int))) F p am n (upd s i { s i with c := c' }) g C' q v := by
  refine ⟨_, h.cells_to (by simp) (heap_setCell_same w g (i * 5 + 4) _ _ _ h.row) (fun b _ hb => Below.heap_setCell _ _ _ _ hb) (fun j hj => ?_) (fun j hj => ?_)⟩
  · by_cases e : j = i
    · subst e
      rw [upd_at]
      obtain ⟨c0, c1, c2, c3, c4⟩ := h.five j hj
      have hl := (Array.getElem?_eq_some_iff.1 c4).1
      refine ⟨?_, ?_, ?_, ?_, ?_⟩
      · rw [Array.getElem?_setIfInBounds_ne (by omega)]; exact c0
      · rw [Array.getElem?_setIfInBounds_ne (by omega)]; exact c1
      · rw [Array.getElem?_setIfInBounds_ne (by omega)]; exact c2
      · rw [Array.getElem?_setIfInBounds_ne (by omega)]; exact c3
      · rw [Array.getElem?_setIfInBounds_self_of_lt hl]
    · rw [upd_ne _ _ _ e]
      exact (h.five j hj).set_ne (i := i) (by omega) rfl
  · by_cases e : j = i
    · subst e; rw [upd_at]; exact ⟨rfl, rfl, rfl, h.ft j hj⟩
    · rw [upd_ne _ _ _ e]; exact ⟨rfl, rfl, rfl, h.ft j hj⟩
/-- Armed, or not. -/
theorem Dk.arms (h : Dk w F p am n s g C q v) (b : Bool) : Dk (w.setCell ⟨p, 0, none⟩ (.bool b)) F p b n s g C q v := by
  have hne : ∀ i, i < n → ∀ b, Ft (q i) (v i) b → b ≠ p := fun i hi b hb e => (h.sep i hi).1 (e ▸ hb)
  refine ⟨heap_setCell_same w p 0 _ _ _ h.blk, (Below.heap_setCell _ _ _ _ (fun e => h.pg e.symm)).trans h.row, h.few, h.five, fun i hi => ?_, h.le, h.ft, h.pg, h.sep, h.apart, h.foot, fun c hc => by simpa using h.lt c hc⟩
  exact (h.ar i hi).keep (Below.heap_setCell _ _ _ _ (hne i hi _ (.inl rfl))) (fun j hj => Below.heap_setCell _ _ _ _ (hne i hi _ (.inr hj)))
end

/-- A disk, whatever its blocks. -/
def Dsk (w : World) (F : Nat → Prop) (p : Nat) (am : Bool) (n : Nat) (s : Nat → Pt) : Prop := ∃ g C q v, Dk w F p am n s g C q v
section
variable {w w' : World} {F G : Nat → Prop} {p : Nat} {am : Bool} {n : Nat} {s : Nat → Pt}
theorem Dsk.below (h : Dsk w F p am n s) (hb : Below w.heap.size w w') : Dsk w' F p am n s := by
  obtain ⟨g, C, q, v, h⟩ := h
  exact ⟨g, C, q, v, h.below hb⟩
theorem Dsk.chg (h : Dsk w F p am n s) (hc : Chg G w w') (hd : ∀ b, F b → ¬ G b) : Dsk w' F p am n s := by
  obtain ⟨g, C, q, v, h⟩ := h
  exact ⟨g, C, q, v, h.chg hc hd⟩
theorem Dsk.mono (h : Dsk w F p am n s) (hF : ∀ b, F b → G b) (hG : ∀ b, G b → b < w.heap.size) : Dsk w G p am n s := by
  obtain ⟨g, C, q, v, h⟩ := h
  exact ⟨g, C, q, v, h.mono hF hG⟩
theorem Dsk.lt (h : Dsk w F p am n s) : ∀ b, F b → b < w.heap.size := by
  obtain ⟨g, C, q, v, h⟩ := h
  exact h.lt
theorem Dsk.few (h : Dsk w F p am n s) : 1 ≤ n ∧ n ≤ 16 := by
  obtain ⟨g, C, q, v, h⟩ := h
  exact h.few
theorem Dsk.le (h : Dsk w F p am n s) : ∀ i, i < n → (s i).k ≤ (s i).bs.length := by
  obtain ⟨g, C, q, v, h⟩ := h
  exact h.le
theorem Dsk.ft (h : Dsk w F p am n s) : ∀ i, i < n → (s i).ft < 256 := by
  obtain ⟨g, C, q, v, h⟩ := h
  exact h.ft
theorem Dsk.room (h : Dsk w F p am n s) : ∀ i, i < n → (s i).bs.length ≤ 211106232532800 ∧ (s i).B + (s i).bs.length ≤ 9223372036854775807 ∧ All8 (s i).bs := by
  obtain ⟨g, C, q, v, h⟩ := h
  exact fun i hi => ⟨(h.ar i hi).len, (h.ar i hi).room, (h.ar i hi).all⟩
theorem Dsk.own (h : Dsk w F p am n s) : F p := by
  obtain ⟨g, C, q, v, h⟩ := h
  exact h.foot p (.inl rfl)
end

/-- What a call leaves of a disk. -/
structure Went (w : World) (F : Nat → Prop) (p : Nat) (am : Bool) (n : Nat) (s : Nat → Pt) (w' : World) : Prop where
  dsk : Dsk w' (upto F w w') p am n s
  chg : Chg F w w'
theorem Went.of_below {w w' : World} {F : Nat → Prop} {p : Nat} {am : Bool} {n : Nat} {s : Nat → Pt} (h : Dsk w F p am n s) (hb : Below w.heap.size w w') : Went w F p am n s w' :=
  ⟨(h.below hb).mono (fun _ hj => .inl hj) (fun j hj => by
    rcases hj with hj | hj
    · have := h.lt j hj; have := hb.size; omega
    · exact hj.2), Chg.new hb⟩
theorem upto_mono {F : Nat → Prop} {w w1 w2 : World} (h1 : w.heap.size ≤ w1.heap.size) : ∀ j, upto (upto F w w1) w1 w2 j → w1.heap.size ≤ w2.heap.size → upto F w w2 j := fun j hj h2 => by
  rcases hj with (hj | hj) | hj
  · exact .inl hj
  · exact .inr (by omega)
  · exact .inr (by omega)
theorem Went.trans {w w1 w2 : World} {F : Nat → Prop} {p : Nat} {am am' : Bool} {n : Nat} {s s' : Nat → Pt} (h : Went w F p am n s w1) (k : Went w1 (upto F w w1) p am' n s' w2) : Went w F p am' n s' w2 := by
  have h1 := h.chg.size
  have h2 := k.chg.size
  refine ⟨k.dsk.mono (fun j hj => upto_mono h1 j hj h2) (fun j hj => ?_), h.chg.trans k.chg (fun j hj hu => ?_)⟩
  · rcases hj with hj | hj
    · exact Nat.lt_of_lt_of_le (Nat.lt_of_lt_of_le (k.dsk.lt j (.inl (.inl hj))) (Nat.le_refl _)) (Nat.le_refl _)
    · exact hj.2
  · rcases hu with hu | hu
    · exact hu
    · omega
theorem upto_far {F G : Nat → Prop} {w w' : World} (hd : ∀ j, F j → ¬ G j) (hG : ∀ j, G j → j < w.heap.size) : ∀ j, upto F w w' j → ¬ G j := fun j hj h4 => by
  rcases hj with hj | hj
  · exact hd j hj h4
  · have := hG j h4; omega

end Go.Proofs.Ytdodnegdpdhbiaa
