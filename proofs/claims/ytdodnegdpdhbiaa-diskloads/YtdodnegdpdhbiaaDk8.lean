/- Arm and Strike. -/
import Derived.Test.YtdodnegdpdhbiaaDk7
import Derived.Test.YtdodnegdpdhbiaaOpenFte
namespace Go.Proofs.Ytdodnegdpdhbiaa
open Go.RowKit

/-- What lies behind a region that ends as it should: how it might end otherwise is not asked. -/
theorem wp_calm {P : Program} {c : Code} {K : Act → World → Prop} {Q : Exit → Act → World → Prop} {a : Act} {w : World} (h : Code.wp P c (Exit.then K fun _ _ _ => False) a w) : Code.wp P c (Exit.then K Q) a w :=
  Code.wp_mono (fun e a w hq => by cases e <;> first | exact hq | exact hq.elim) h

theorem heap_drew (w : World) : w.drew.heap = w.heap := rfl

/-- A row of fates: the slice's address and its elements (none: whatever the address). -/
abbrev RowF (w : World) (a : Option Addr) (m : Nat) (f : Nat → Fte) : Prop := RowFte w a m f
/-- It lies in none of these blocks. -/
def farA (F : Nat → Prop) (a : Option Addr) : Prop := ∀ ad, a = some ad → ¬ F ad.block
theorem RowF.keep {w w' : World} {a : Option Addr} {m : Nat} {f : Nat → Fte} (h : RowF w a m f) (hs : w.heap.size ≤ w'.heap.size) (hk : ∀ ad : Addr, a = some ad → ad.block < w.heap.size → w'.heap[ad.block]? = w.heap[ad.block]?) : RowF w' a m f := by
  rcases h with h | ⟨b, o, e, hlt, hc⟩
  · exact .inl h
  · have hb := hk _ e hlt
    refine .inr ⟨b, o, e, Nat.lt_of_lt_of_le hlt hs, fun i hi => ?_⟩
    obtain ⟨h1, h2, h3⟩ := hc i hi
    exact ⟨(World.cell?_of_block (w := w) (a := ⟨b, o + i * 3, none⟩) hb).trans h1, (World.cell?_of_block (w := w) (a := ⟨b, o + i * 3 + 1, none⟩) hb).trans h2, (World.cell?_of_block (w := w) (a := ⟨b, o + i * 3 + 2, none⟩) hb).trans h3⟩
theorem RowF.chg {w w' : World} {F : Nat → Prop} {a : Option Addr} {m : Nat} {f : Nat → Fte} (h : RowF w a m f) (hc : Chg F w w') (hf : m = 0 ∨ farA F a) : RowF w' a m f := by
  rcases hf with hf | hf
  · exact .inl hf
  · exact h.keep hc.size fun ad e hl => hc.block _ hl (hf ad e)
theorem RowF.below {w w' : World} {a : Option Addr} {m : Nat} {f : Nat → Fte} (h : RowF w a m f) (hb : Below w.heap.size w w') : RowF w' a m f := h.keep hb.size fun _ad _e hl => hb.block _ hl

/-- An area that is armed anew. -/
def armX (x : Pt) (m : Nat) (f : Nat → Fte) (i : Nat) : Pt := { x with fd := if i < m then (f i).d else 0, fk := if i < m then (f i).k else 0, ft := if i < m then (f i).t else 0, c := 0 }
/-- The first j of them. -/
def armTo (s : Nat → Pt) (m : Nat) (f : Nat → Fte) (j i : Nat) : Pt := if i < j then armX (s i) m f i else s i
theorem armTo_zero (s : Nat → Pt) (m : Nat) (f : Nat → Fte) : armTo s m f 0 = s := by funext i; unfold armTo; rw [if_neg (by omega)]
theorem armTo_at (s : Nat → Pt) (m : Nat) (f : Nat → Fte) (j : Nat) : armTo s m f j j = s j := if_neg (by omega)
theorem armTo_succ (s : Nat → Pt) (m : Nat) (f : Nat → Fte) (j : Nat) : upd (armTo s m f j) j (armX (s j) m f j) = armTo s m f (j + 1) := by
  funext i
  unfold upd armTo
  by_cases h : i = j
  · subst h; rw [if_pos rfl, if_pos (by omega)]
  · rw [if_neg h]
    by_cases h2 : i < j
    · rw [if_pos h2, if_pos (by omega)]
    · rw [if_neg h2, if_neg (by omega)]

section
variable {w : World} {F : Nat → Prop} {p : Nat} {am : Bool} {n : Nat} {s : Nat → Pt} {g : Nat} {C : Array Value} {q : Nat → Nat} {v : Nat → Value}

/-- The four cells of a part behind its area, written. -/
abbrev put5 (w : World) (g i : Nat) (u0 u1 u2 u3 u4 : Value) : World := ((((w.setCell ⟨g, i * 5, none⟩ u0).setCell ⟨g, i * 5 + 1, none⟩ u1).setCell ⟨g, i * 5 + 2, none⟩ u2).setCell ⟨g, i * 5 + 3, none⟩ u3).setCell ⟨g, i * 5 + 4, none⟩ u4
abbrev put3 (w : World) (g i : Nat) (u1 u2 u3 : Value) : World := ((w.setCell ⟨g, i * 5 + 1, none⟩ u1).setCell ⟨g, i * 5 + 2, none⟩ u2).setCell ⟨g, i * 5 + 3, none⟩ u3

theorem Dk.put5 (h : Dk w F p am n s g C q v) {i : Nat} (hi : i < n) (x : Pt) (hx : x.B = (s i).B ∧ x.bs = (s i).bs ∧ x.k = (s i).k ∧ x.ft < 256) :
    ∃ C', Dk (put5 w g i (.pointer (some ⟨q i, 0, none⟩)) (.int .i64 x.fd) (.int .i64 x.fk) (.int .u8 (x.ft : Int)) (.int .i64 (x.c : Int))) F p am n (upd s i x) g C' q v := by
  refine ⟨_, h.cells_to (by simp) (heap_setCell_same _ g _ _ _ _ (heap_setCell_same _ g _ _ _ _ (heap_setCell_same _ g _ _ _ _ (heap_setCell_same _ g _ _ _ _ (heap_setCell_same w g _ _ _ _ h.row)))))
    (fun b _ hb => (Below.heap_setCell _ _ _ _ hb).trans ((Below.heap_setCell _ _ _ _ hb).trans ((Below.heap_setCell _ _ _ _ hb).trans ((Below.heap_setCell _ _ _ _ hb).trans (Below.heap_setCell _ _ _ _ hb))))) (fun j hj => ?_) (fun j hj => ?_)⟩
  · by_cases e : j = i
    · subst e
      rw [upd_at]
      obtain ⟨c0, c1, c2, c3, c4⟩ := h.five j hj
      have hl := (Array.getElem?_eq_some_iff.1 c4).1
      refine ⟨?_, ?_, ?_, ?_, ?_⟩
      · rw [Array.getElem?_setIfInBounds_ne (by omega), Array.getElem?_setIfInBounds_ne (by omega), Array.getElem?_setIfInBounds_ne (by omega), Array.getElem?_setIfInBounds_ne (by omega), Array.getElem?_setIfInBounds_self_of_lt (by omega)]
      · rw [Array.getElem?_setIfInBounds_ne (by omega), Array.getElem?_setIfInBounds_ne (by omega), Array.getElem?_setIfInBounds_ne (by omega), Array.getElem?_setIfInBounds_self_of_lt (by simp; omega)]
      · rw [Array.getElem?_setIfInBounds_ne (by omega), Array.getElem?_setIfInBounds_ne (by omega), Array.getElem?_setIfInBounds_self_of_lt (by simp; omega)]
      · rw [Array.getElem?_setIfInBounds_ne (by omega), Array.getElem?_setIfInBounds_self_of_lt (by simp; omega)]
      · rw [Array.getElem?_setIfInBounds_self_of_lt (by simp; omega)]
    · rw [upd_ne _ _ _ e]
      exact ((((((h.five j hj).set_ne (i := i) (by omega) rfl).set_ne (i := i) (by omega) rfl).set_ne (i := i) (by omega) rfl).set_ne (i := i) (by omega) rfl).set_ne (i := i) (by omega) rfl)
  · by_cases e : j = i
    · subst e; rw [upd_at]; exact hx
    · rw [upd_ne _ _ _ e]; exact ⟨rfl, rfl, rfl, h.ft j hj⟩
theorem Dk.put3 (h : Dk w F p am n s g C q v) {i : Nat} (hi : i < n) (d k : Int) (t : Nat) (ht : t < 256) :
    ∃ C', Dk (put3 w g i (.int .i64 d) (.int .i64 k) (.int .u8 (t : Int))) F p am n (upd s i { s i with fd := d, fk := k, ft := t }) g C' q v := by
  refine ⟨_, h.cells_to (by simp) (heap_setCell_same _ g _ _ _ _ (heap_setCell_same _ g _ _ _ _ (heap_setCell_same w g _ _ _ _ h.row)))
    (fun b _ hb => (Below.heap_setCell _ _ _ _ hb).trans ((Below.heap_setCell _ _ _ _ hb).trans (Below.heap_setCell _ _ _ _ hb))) (fun j hj => ?_) (fun j hj => ?_)⟩
  · by_cases e : j = i
    · subst e
      rw [upd_at]
      obtain ⟨c0, c1, c2, c3, c4⟩ := h.five j hj
      have hl := (Array.getElem?_eq_some_iff.1 c4).1
      refine ⟨?_, ?_, ?_, ?_, ?_⟩
      · rw [Array.getElem?_setIfInBounds_ne (by omega), Array.getElem?_setIfInBounds_ne (by omega), Array.getElem?_setIfInBounds_ne (by omega)]; exact c0
      · rw [Array.getElem?_setIfInBounds_ne (by omega), Array.getElem?_setIfInBounds_ne (by omega), Array.getElem?_setIfInBounds_self_of_lt (by omega)]
      · rw [Array.getElem?_setIfInBounds_ne (by omega), Array.getElem?_setIfInBounds_self_of_lt (by simp; omega)]
      · rw [Array.getElem?_setIfInBounds_self_of_lt (by simp; omega)]
      · rw [Array.getElem?_setIfInBounds_ne (by omega), Array.getElem?_setIfInBounds_ne (by omega), Array.getElem?_setIfInBounds_ne (by omega)]; exact c4
    · rw [upd_ne _ _ _ e]
      exact (((h.five j hj).set_ne (i := i) (by omega) rfl).set_ne (i := i) (by omega) rfl).set_ne (i := i) (by omega) rfl
  · by_cases e : j = i
    · subst e; rw [upd_at]; exact ⟨rfl, rfl, rfl, ht⟩
    · rw [upd_ne _ _ _ e]; exact ⟨rfl, rfl, rfl, h.ft j hj⟩
theorem chg_put5 {w1 : World} (h : Chg F w w1) (hg : F g) (i : Nat) (u0 u1 u2 u3 u4 : Value) : Chg F w (Go.Proofs.Ytdodnegdpdhbiaa.put5 w1 g i u0 u1 u2 u3 u4) :=
  ((((h.setCell _ _ (fun _ => hg)).setCell _ _ (fun _ => hg)).setCell _ _ (fun _ => hg)).setCell _ _ (fun _ => hg)).setCell _ _ (fun _ => hg)
theorem chg_put3 {w1 : World} (h : Chg F w w1) (hg : F g) (i : Nat) (u1 u2 u3 : Value) : Chg F w (Go.Proofs.Ytdodnegdpdhbiaa.put3 w1 g i u1 u2 u3) :=
  ((h.setCell _ _ (fun _ => hg)).setCell _ _ (fun _ => hg)).setCell _ _ (fun _ => hg)
theorem put5_block (w : World) (g i : Nat) (u0 u1 u2 u3 u4 : Value) {b : Nat} (hb : b ≠ g) : (Go.Proofs.Ytdodnegdpdhbiaa.put5 w g i u0 u1 u2 u3 u4).heap[b]? = w.heap[b]? :=
  (Below.heap_setCell _ _ _ _ hb).trans ((Below.heap_setCell _ _ _ _ hb).trans ((Below.heap_setCell _ _ _ _ hb).trans ((Below.heap_setCell _ _ _ _ hb).trans (Below.heap_setCell _ _ _ _ hb))))
theorem put3_block (w : World) (g i : Nat) (u1 u2 u3 : Value) {b : Nat} (hb : b ≠ g) : (Go.Proofs.Ytdodnegdpdhbiaa.put3 w g i u1 u2 u3).heap[b]? = w.heap[b]? :=
  (Below.heap_setCell _ _ _ _ hb).trans ((Below.heap_setCell _ _ _ _ hb).trans (Below.heap_setCell _ _ _ _ hb))
end

end Go.Proofs.Ytdodnegdpdhbiaa
