/- Arm and Strike. Arm and Strike: the parts begun anew. Arm and Strike, whole. What 'make' makes: rows of structs, all zero. Image. New and Load. New and Load, walked. -/
import Derived.Test.YtkacfpmninmjkaaGreatDk1
import Derived.Test.YtkacfpmninmjkaaGreatOpenFte
import Derived.Laws.MakeOwn
namespace Go.Proofs.YtkacfpmninmjkaaGreat
open Go.RowKit

/-- What lies behind a region that ends as it should: how it might end otherwise is not asked. -/
theorem wp_calm {P : Program} {c : Code} {K : Act → World → Prop} {Q : Exit → Act → World → Prop} {a : Act} {w : World} (h : Code.wp P c (Exit.then K fun _ _ _ => False) a w) : Code.wp P c (Exit.then K Q) a w :=
  Code.wp_mono (fun e a w hq => by cases e <;> first | exact hq | exact hq.elim) h

theorem heap_drew (w : World) : w.drew.heap = w.heap := rfl

/-- A row of fates: the slice's address and its elements (none: whatever the address). -/
abbrev RowF (w : World) (a : Option Addr) (m : Nat) (f : Nat → Fte) : Prop := RowFte w a m f
/-- It lies in none of these blocks. -/
def farA (F : Nat → Prop) (a : Option Addr) : Prop := ∀ ad, a = some ad → ¬ F ad.block
theorem RowF.keep {w w' : World} {a : Option Addr} {m : Nat} {f : Nat → Fte} (h : RowF w a m f) (hs : w.heap.size ≤ w'.heap.size) (hk : ∀ ad : Addr, a = some ad → ad.block < w.heap.size → w'.heap[ad.block]? = w.heap[ad.block]?) : RowF w' a m f := by
  rcases h with h | ⟨b, o, e, hlt, hc⟩
  · exact .inl h
  · have hb := hk _ e hlt
    refine .inr ⟨b, o, e, Nat.lt_of_lt_of_le hlt hs, fun i hi => ?_⟩
    obtain ⟨h1, h2, h3⟩ := hc i hi
    exact ⟨(World.cell?_of_block (w := w) (a := ⟨b, o + i * 3, none⟩) hb).trans h1, (World.cell?_of_block (w := w) (a := ⟨b, o + i * 3 + 1, none⟩) hb).trans h2, (World.cell?_of_block (w := w) (a := ⟨b, o + i * 3 + 2, none⟩) hb).trans h3⟩
theorem RowF.chg {w w' : World} {F : Nat → Prop} {a : Option Addr} {m : Nat} {f : Nat → Fte} (h : RowF w a m f) (hc : Chg F w w') (hf : m = 0 ∨ farA F a) : RowF w' a m f := by
  rcases hf with hf | hf
  · exact .inl hf
  · exact h.keep hc.size fun ad e hl => hc.block _ hl (hf ad e)
theorem RowF.below {w w' : World} {a : Option Addr} {m : Nat} {f : Nat → Fte} (h : RowF w a m f) (hb : Below w.heap.size w w') : RowF w' a m f := h.keep hb.size fun _ad _e hl => hb.block _ hl

/-- An area that is armed anew. -/
def armX (x : Pt) (m : Nat) (f : Nat → Fte) (i : Nat) : Pt := { x with fd := if i < m then (f i).d else 0, fk := if i < m then (f i).k else 0, ft := if i < m then (f i).t else 0, c := 0 }
/-- The first j of them. -/
def armTo (s : Nat → Pt) (m : Nat) (f : Nat → Fte) (j i : Nat) : Pt := if i < j then armX (s i) m f i else s i
theorem armTo_zero (s : Nat → Pt) (m : Nat) (f : Nat → Fte) : armTo s m f 0 = s := by funext i; unfold armTo; rw [if_neg (by omega)]
theorem armTo_at (s : Nat → Pt) (m : Nat) (f : Nat → Fte) (j : Nat) : armTo s m f j j = s j := if_neg (by omega)
theorem armTo_succ (s : Nat → Pt) (m : Nat) (f : Nat → Fte) (j : Nat) : upd (armTo s m f j) j (armX (s j) m f j) = armTo s m f (j + 1) := by
  funext i
  unfold upd armTo
  by_cases h : i = j
  · subst h; rw [if_pos rfl, if_pos (by omega)]
  · rw [if_neg h]
    by_cases h2 : i < j
    · rw [if_pos h2, if_pos (by omega)]
    · rw [if_neg h2, if_neg (by omega)]

section
variable {w : World} {F : Nat → Prop} {p : Nat} {am : Bool} {n : Nat} {s : Nat → Pt} {g : Nat} {C : Array Value} {q : Nat → Nat} {v : Nat → Value}

/-- The four cells of a part behind its area, written. -/
abbrev put5 (w : World) (g i : Nat) (u0 u1 u2 u3 u4 : Value) : World := ((((w.setCell ⟨g, i * 5, none⟩ u0).setCell ⟨g, i * 5 + 1, none⟩ u1).setCell ⟨g, i * 5 + 2, none⟩ u2).setCell ⟨g, i * 5 + 3, none⟩ u3).setCell ⟨g, i * 5 + 4, none⟩ u4
abbrev put3 (w : World) (g i : Nat) (u1 u2 u3 : Value) : World := ((w.setCell ⟨g, i * 5 + 1, none⟩ u1).setCell ⟨g, i * 5 + 2, none⟩ u2).setCell ⟨g, i * 5 + 3, none⟩ u3

theorem Dk.put5 (h : Dk w F p am n s g C q v) {i : Nat} (hi : i < n) (x : Pt) (hx : x.B = (s i).B ∧ x.bs = (s i).bs ∧ x.k = (s i).k ∧ x.ft < 256) :
    ∃ C', Dk (put5 w g i (.pointer (some ⟨q i, 0, none⟩)) (.int .i64 x.fd) (.int .i64 x.fk) (.int .u8 (x.ft : Int)) (.int .i64 (x.c : Int))) F p am n (upd s i x) g C' q v := by
  refine ⟨_, h.cells_to (by simp) (heap_setCell_same _ g _ _ _ _ (heap_setCell_same _ g _ _ _ _ (heap_setCell_same _ g _ _ _ _ (heap_setCell_same _ g _ _ _ _ (heap_setCell_same w g _ _ _ _ h.row)))))
    (fun b _ hb => (Below.heap_setCell _ _ _ _ hb).trans ((Below.heap_setCell _ _ _ _ hb).trans ((Below.heap_setCell _ _ _ _ hb).trans ((Below.heap_setCell _ _ _ _ hb).trans (Below.heap_setCell _ _ _ _ hb))))) (fun j hj => ?_) (fun j hj => ?_)⟩
  · by_cases e : j = i
    · subst e
      rw [upd_at]
      obtain ⟨c0, c1, c2, c3, c4⟩ := h.five j hj
      have hl := (Array.getElem?_eq_some_iff.1 c4).1
      refine ⟨?_, ?_, ?_, ?_, ?_⟩
      · rw [Array.getElem?_setIfInBounds_ne (by omega), Array.getElem?_setIfInBounds_ne (by omega), Array.getElem?_setIfInBounds_ne (by omega), Array.getElem?_setIfInBounds_ne (by omega), Array.getElem?_setIfInBounds_self_of_lt (by omega)]
      · rw [Array.getElem?_setIfInBounds_ne (by omega), Array.getElem?_setIfInBounds_ne (by omega), Array.getElem?_setIfInBounds_ne (by omega), Array.getElem?_setIfInBounds_self_of_lt (by simp; omega)]
      · rw [Array.getElem?_setIfInBounds_ne (by omega), Array.getElem?_setIfInBounds_ne (by omega), Array.getElem?_setIfInBounds_self_of_lt (by simp; omega)]
      · rw [Array.getElem?_setIfInBounds_ne (by omega), Array.getElem?_setIfInBounds_self_of_lt (by simp; omega)]
      · rw [Array.getElem?_setIfInBounds_self_of_lt (by simp; omega)]
    · rw [upd_ne _ _ _ e]
      exact ((((((h.five j hj).set_ne (i := i) (by omega) rfl).set_ne (i := i) (by omega) rfl).set_ne (i := i) (by omega) rfl).set_ne (i := i) (by omega) rfl).set_ne (i := i) (by omega) rfl)
  · by_cases e : j = i
    · subst e; rw [upd_at]; exact hx
    · rw [upd_ne _ _ _ e]; exact ⟨rfl, rfl, rfl, h.ft j hj⟩
theorem Dk.put3 (h : Dk w F p am n s g C q v) {i : Nat} (hi : i < n) (d k : Int) (t : Nat) (ht : t < 256) :
    ∃ C', Dk (put3 w g i (.int .i64 d) (.int .i64 k) (.int .u8 (t : Int))) F p am n (upd s i { s i with fd := d, fk := k, ft := t }) g C' q v := by
  refine ⟨_, h.cells_to (by simp) (heap_setCell_same _ g _ _ _ _ (heap_setCell_same _ g _ _ _ _ (heap_setCell_same w g _ _ _ _ h.row)))
    (fun b _ hb => (Below.heap_setCell _ _ _ _ hb).trans ((Below.heap_setCell _ _ _ _ hb).trans (Below.heap_setCell _ _ _ _ hb))) (fun j hj => ?_) (fun j hj => ?_)⟩
  · by_cases e : j = i
    · subst e
      rw [upd_at]
      obtain ⟨c0, c1, c2, c3, c4⟩ := h.five j hj
      have hl := (Array.getElem?_eq_some_iff.1 c4).1
      refine ⟨?_, ?_, ?_, ?_, ?_⟩
      · rw [Array.getElem?_setIfInBounds_ne (by omega), Array.getElem?_setIfInBounds_ne (by omega), Array.getElem?_setIfInBounds_ne (by omega)]; exact c0
      · rw [Array.getElem?_setIfInBounds_ne (by omega), Array.getElem?_setIfInBounds_ne (by omega), Array.getElem?_setIfInBounds_self_of_lt (by omega)]
      · rw [Array.getElem?_setIfInBounds_ne (by omega), Array.getElem?_setIfInBounds_self_of_lt (by simp; omega)]
      · rw [Array.getElem?_setIfInBounds_self_of_lt (by simp; omega)]
      · rw [Array.getElem?_setIfInBounds_ne (by omega), Array.getElem?_setIfInBounds_ne (by omega), Array.getElem?_setIfInBounds_ne (by omega)]; exact c4
    · rw [upd_ne _ _ _ e]
      exact (((h.five j hj).set_ne (i := i) (by omega) rfl).set_ne (i := i) (by omega) rfl).set_ne (i := i) (by omega) rfl
  · by_cases e : j = i
    · subst e; rw [upd_at]; exact ⟨rfl, rfl, rfl, ht⟩
    · rw [upd_ne _ _ _ e]; exact ⟨rfl, rfl, rfl, h.ft j hj⟩
theorem chg_put5 {w1 : World} (h : Chg F w w1) (hg : F g) (i : Nat) (u0 u1 u2 u3 u4 : Value) : Chg F w (Go.Proofs.YtkacfpmninmjkaaGreat.put5 w1 g i u0 u1 u2 u3 u4) :=
  ((((h.setCell _ _ (fun _ => hg)).setCell _ _ (fun _ => hg)).setCell _ _ (fun _ => hg)).setCell _ _ (fun _ => hg)).setCell _ _ (fun _ => hg)
theorem chg_put3 {w1 : World} (h : Chg F w w1) (hg : F g) (i : Nat) (u1 u2 u3 : Value) : Chg F w (Go.Proofs.YtkacfpmninmjkaaGreat.put3 w1 g i u1 u2 u3) :=
  ((h.setCell _ _ (fun _ => hg)).setCell _ _ (fun _ => hg)).setCell _ _ (fun _ => hg)
theorem put5_block (w : World) (g i : Nat) (u0 u1 u2 u3 u4 : Value) {b : Nat} (hb : b ≠ g) : (Go.Proofs.YtkacfpmninmjkaaGreat.put5 w g i u0 u1 u2 u3 u4).heap[b]? = w.heap[b]? :=
  (Below.heap_setCell _ _ _ _ hb).trans ((Below.heap_setCell _ _ _ _ hb).trans ((Below.heap_setCell _ _ _ _ hb).trans ((Below.heap_setCell _ _ _ _ hb).trans (Below.heap_setCell _ _ _ _ hb))))
theorem put3_block (w : World) (g i : Nat) (u1 u2 u3 : Value) {b : Nat} (hb : b ≠ g) : (Go.Proofs.YtkacfpmninmjkaaGreat.put3 w g i u1 u2 u3).heap[b]? = w.heap[b]? :=
  (Below.heap_setCell _ _ _ _ hb).trans ((Below.heap_setCell _ _ _ _ hb).trans (Below.heap_setCell _ _ _ _ hb))
end

end Go.Proofs.YtkacfpmninmjkaaGreat

namespace Go.Proofs.YtkacfpmninmjkaaGreat
open Go.RowKit

section
variable {w : World} {F : Nat → Prop} {p : Nat} {am : Bool} {n : Nat} {s : Nat → Pt} {g : Nat} {C : Array Value} {q : Nat → Nat} {v : Nat → Value}

set_option maxRecDepth 100000 in
set_option maxHeartbeats 1600000 in
theorem begin_any (h : Dk w F p am n s g C q v) (b : Bool) (fa : Option Addr) (m cap : Nat) (f : Nat → Fte) (hfs : RowF w fa m f) (hfar : m = 0 ∨ farA F fa) (hft : ∀ i, i < m → (f i).t < 256) :
    Calls Tryz.prog 57 #[.pointer (some ⟨p, 0, none⟩), .bool b, .slice fa m cap] w fun e w' => e = .returned (.tuple #[]) ∧ Went w F p b n (armTo s m f n) w' := by
  obtain ⟨d0, d1, df⟩ := h.cells
  have hgF : F g := h.foot g (.inr (.inl rfl))
  have hpF : F p := h.foot p (.inl rfl)
  have h1 := h.arms b
  have hc1 : Chg F w (w.setCell ⟨p, 0, none⟩ (.bool b)) := (Chg.refl F w).setCell _ _ (fun _ => hpF)
  obtain ⟨e0, e1, _⟩ := h1.cells
  have hn := h.few.2
  replace h1 := hide_it h1
  replace hc1 := hide_it hc1
  clear h
  go_enter Tryz.func57, Tryz.ntmps57
  go_wp2_with fail
  go_loopw [17, 6, 7] (fun i _ _ wr => ∃ j : Nat, j ≤ n ∧ i = .int .i64 (j : Int) ∧ Hid ((∃ C', Dk wr F p b n (armTo s m f j) g C' q v) ∧ Chg F w wr)) (fun i _ _ _ => n - (intOf i).toNat)
  case atStart => exact ⟨0, by omega, rfl, ⟨C, by rw [armTo_zero]; exact h1.out⟩, hc1.out⟩
  case round =>
    obtain ⟨j, hj, rfl, hR⟩ := hrel
    clear e0 e1 df h1 hc1 d0 d1
    obtain ⟨⟨C', hD⟩, hc⟩ := hR.out
    clear hR
    by_cases hlt : j < n
    · obtain ⟨a0, a1, a2, a3, a4, aF⟩ := hD.at_ hlt
      rw [armTo_at] at a1 a2 a3 a4
      obtain ⟨b0, b1, _⟩ := hD.cells
      have hplt := hD.plt
      have hglt := hD.glt
      have hDH := hide_it hD
      clear hD
      go_wp2_with fail
      obtain ⟨X, hX⟩ : ∃ X, X = wr.heap.size := ⟨_, rfl⟩
      obtain ⟨w3, hw3⟩ : ∃ w3, w3 = wr.alloc (.cells #[.pointer (some ⟨q j, 0, none⟩), .int .i64 (s j).fd, .int .i64 (s j).fk, .int .u8 ((s j).ft : Int), .int .i64 ((s j).c : Int)] 86) := ⟨_, rfl⟩
      have hb3 : Below wr.heap.size wr w3 := by rw [hw3]; exact (Below.refl _ _).alloc (Nat.le_refl _) _
      have hx3 : w3.heap[X]? = some (.cells #[.pointer (some ⟨q j, 0, none⟩), .int .i64 (s j).fd, .int .i64 (s j).fk, .int .u8 ((s j).ft : Int), .int .i64 ((s j).c : Int)] 86 (0, 0)) := by rw [hw3, hX]; exact heap_alloc_new wr _
      rw [← hw3, ← hX]
      have hXg : X ≠ g := by omega
      have hpg : p ≠ g := hDH.out.pg
      have hD3 := hDH.out.below hb3
      have hc3 : Chg F w w3 := hc.trans (Chg.new (S := F) hb3) (fun _ _ x => x)
      have hfs3 := hfs.chg hc3 hfar
      clear hw3 hX hDH hc hb3 a0 a1 a2 a3 a4 aF b0 b1 hplt hglt
      have x0 := cell_of_row _ _ 0 _ _ _ hx3
      obtain ⟨b0, b1, _⟩ := hD3.cells
      obtain ⟨_, _, _, _, _, aF⟩ := hD3.at_ hlt
      have y5 := hD3.put5 hlt { s j with fd := 0, fk := 0, ft := 0, c := 0 } (by rw [armTo_at]; exact ⟨rfl, rfl, rfl, by simp⟩)
      have yc := chg_put5 hc3 hgF j (.pointer (some ⟨q j, 0, none⟩)) (.int .i64 0) (.int .i64 0) (.int .u8 0) (.int .i64 0)
      obtain ⟨C5, hD5⟩ := y5
      have g0 := (hD3.five j hlt).c0
      obtain ⟨t0, t1, t2, t3, t4⟩ := hD3.five j hlt
      have hgl : w3.cell? ⟨g, j * 5, none⟩ ≠ none := by rw [(hD3.at_ hlt).1]; simp
      have z0 := (hD3.at_ hlt).1
      have z1 := (hD3.at_ hlt).2.1
      have z2 := (hD3.at_ hlt).2.2.1
      have z3 := (hD3.at_ hlt).2.2.2.1
      have z4 := (hD3.at_ hlt).2.2.2.2.1
      have hkp : (put5 w3 g j (.pointer (some ⟨q j, 0, none⟩)) (.int .i64 0) (.int .i64 0) (.int .u8 0) (.int .i64 0)).drew.heap[p]? = w3.heap[p]? ∧ (put5 w3 g j (.pointer (some ⟨q j, 0, none⟩)) (.int .i64 0) (.int .i64 0) (.int .u8 0) (.int .i64 0)).drew.heap[X]? = w3.heap[X]? := by rw [heap_drew]; exact ⟨put5_block w3 _ _ _ _ _ _ _ hpg, put5_block w3 _ _ _ _ _ _ _ hXg⟩
      have hD5' := hide_it hD5
      have hD3' := hide_it hD3
      replace hc3 := hide_it hc3
      replace yc := hide_it yc
      replace hfs3 := hide_it hfs3
      replace hx3 := hide_it hx3
      clear hD5 hD3 t0 t1 t2 t3 t4 g0 hgl b0
      refine wp_calm ?_
      refine wp_region_held_drew (S := (fun w' => w'.heap[p]? = w3.heap[p]? ∧ w'.heap[X]? = w3.heap[X]?)) (by kernel_rfl) ?_ (fun hHeld => ?_)
      · exact ⟨rfl, rfl⟩
      refine take_on (i := 0) (v := ?_) rfl rfl (by kernel_rfl) (by kernel_rfl) (by kernel_rfl) (fun _ _ _ h => h) rfl ?_ hHeld ?_
      rotate_left
      · (intro wq hSq; have q0 := (World.cell?_of_block (w := w3) (a := ⟨p, 1, none⟩) hSq.1).trans b1; have q1 := (World.cell?_of_block (w := w3) (a := ⟨X, 0, none⟩) hSq.2).trans x0; go_simp <;> first | with_reducible rfl | rfl)
      simp only [Act.put, List.setIfInBounds_toArray, List.set_cons_zero, List.set_cons_succ]
      refine take_on (i := 1) (v := ?_) rfl rfl (by kernel_rfl) (by kernel_rfl) (by kernel_rfl) (fun _ _ _ h => h) rfl ?_ hHeld ?_
      rotate_left
      · (intro wq hSq; have q0 := (World.cell?_of_block (w := w3) (a := ⟨p, 1, none⟩) hSq.1).trans b1; have q1 := (World.cell?_of_block (w := w3) (a := ⟨X, 0, none⟩) hSq.2).trans x0; go_simp <;> first | with_reducible rfl | rfl)
      simp only [Act.put, List.setIfInBounds_toArray, List.set_cons_zero, List.set_cons_succ]
      refine take_on (i := 2) (v := ?_) rfl rfl (by kernel_rfl) (by kernel_rfl) (by kernel_rfl) (fun _ _ _ h => h) rfl ?_ hHeld ?_
      rotate_left
      · (intro wq hSq; have q0 := (World.cell?_of_block (w := w3) (a := ⟨p, 1, none⟩) hSq.1).trans b1; have q1 := (World.cell?_of_block (w := w3) (a := ⟨X, 0, none⟩) hSq.2).trans x0; go_simp <;> first | with_reducible rfl | rfl)
      simp only [Act.put, List.setIfInBounds_toArray, List.set_cons_zero, List.set_cons_succ]
      refine take_on (i := 3) (v := ?_) rfl rfl (by kernel_rfl) (by kernel_rfl) (by kernel_rfl) (fun _ _ _ h => h) rfl ?_ hHeld ?_
      rotate_left
      · (intro wq hSq; have q0 := (World.cell?_of_block (w := w3) (a := ⟨p, 1, none⟩) hSq.1).trans b1; have q1 := (World.cell?_of_block (w := w3) (a := ⟨X, 0, none⟩) hSq.2).trans x0; go_simp <;> first | with_reducible rfl | rfl)
      simp only [Act.put, List.setIfInBounds_toArray, List.set_cons_zero, List.set_cons_succ]
      refine take_on (i := 4) (v := ?_) rfl rfl (by kernel_rfl) (by kernel_rfl) (by kernel_rfl) (fun _ _ _ h => h) rfl ?_ hHeld ?_
      rotate_left
      · (intro wq hSq; have q0 := (World.cell?_of_block (w := w3) (a := ⟨p, 1, none⟩) hSq.1).trans b1; have q1 := (World.cell?_of_block (w := w3) (a := ⟨X, 0, none⟩) hSq.2).trans x0; go_simp <;> first | with_reducible rfl | rfl)
      simp only [Act.put, List.setIfInBounds_toArray, List.set_cons_zero, List.set_cons_succ]
      refine take_on (i := 5) (v := ?_) rfl rfl (by kernel_rfl) (by kernel_rfl) (by kernel_rfl) (fun _ _ _ h => h) rfl ?_ hHeld ?_
      rotate_left
      · (intro wq hSq; have q0 := (World.cell?_of_block (w := w3) (a := ⟨p, 1, none⟩) hSq.1).trans b1; have q1 := (World.cell?_of_block (w := w3) (a := ⟨X, 0, none⟩) hSq.2).trans x0; go_simp <;> first | with_reducible rfl | rfl)
      simp only [Act.put, List.setIfInBounds_toArray, List.set_cons_zero, List.set_cons_succ]
      refine take_on (i := 6) (v := ?_) rfl rfl (by kernel_rfl) (by kernel_rfl) (by kernel_rfl) (fun _ _ _ h => h) rfl ?_ hHeld ?_
      rotate_left
      · (intro wq hSq; have q0 := (World.cell?_of_block (w := w3) (a := ⟨p, 1, none⟩) hSq.1).trans b1; have q1 := (World.cell?_of_block (w := w3) (a := ⟨X, 0, none⟩) hSq.2).trans x0; go_simp <;> first | with_reducible rfl | rfl)
      simp only [Act.put, List.setIfInBounds_toArray, List.set_cons_zero, List.set_cons_succ]
      refine take_on (i := 7) (v := ?_) rfl rfl (by kernel_rfl) (by kernel_rfl) (by kernel_rfl) (fun _ _ _ h => h) rfl ?_ hHeld ?_
      rotate_left
      · (intro wq hSq; have q0 := (World.cell?_of_block (w := w3) (a := ⟨p, 1, none⟩) hSq.1).trans b1; have q1 := (World.cell?_of_block (w := w3) (a := ⟨X, 0, none⟩) hSq.2).trans x0; go_simp <;> first | with_reducible rfl | rfl)
      simp only [Act.put, List.setIfInBounds_toArray, List.set_cons_zero, List.set_cons_succ]
      refine take_on (i := 8) (v := ?_) rfl rfl (by kernel_rfl) (by kernel_rfl) (by kernel_rfl) (fun _ _ _ h => h) rfl ?_ hHeld ?_
      rotate_left
      · (intro wq hSq; have q0 := (World.cell?_of_block (w := w3) (a := ⟨p, 1, none⟩) hSq.1).trans b1; have q1 := (World.cell?_of_block (w := w3) (a := ⟨X, 0, none⟩) hSq.2).trans x0; go_simp <;> first | with_reducible rfl | rfl)
      simp only [Act.put, List.setIfInBounds_toArray, List.set_cons_zero, List.set_cons_succ]
      refine take_one (i := 9) rfl (by kernel_rfl) (fun K hK => ?_)
      go_simp
      skip
      try go_wp2_with fail
      refine hK.out _ _ ?_ (fun hHeld => ?_)
      · exact hkp
      clear hK K
      try simp only [Act.put, List.setIfInBounds_toArray, List.set_cons_zero, List.set_cons_succ]
      refine wpAnyH_done (by kernel_rfl) ?_ _
      obtain ⟨w5, hw5⟩ : ∃ w5, w5 = (put5 w3 g j (.pointer (some ⟨q j, 0, none⟩)) (.int .i64 0) (.int .i64 0) (.int .u8 0) (.int .i64 0)).drew := ⟨_, rfl⟩
      unfold put5 at hw5
      rw [← hw5]
      have hD5 : Dk w5 F p b n (upd (armTo s m f j) j { s j with fd := 0, fk := 0, ft := 0, c := 0 }) g C5 q v := by rw [hw5]; exact hD5'.out.drew
      have hc5 : Chg F w w5 := by rw [hw5]; exact yc.out.drew
      have hfs5 := hfs.chg hc5 hfar
      clear hw5 hD5' yc hkp hHeld hD3' hc3 hfs3 hx3 x0 aF z0 z1 z2 z3 z4 b1 hXg
      by_cases hjm : j < m
      · obtain ⟨fb, fo, rfl, hfb, hfc⟩ := hfs5.resolve_left (by omega)
        obtain ⟨f1, f2, f3⟩ := hfc j hjm
        have hfg : fb ≠ g := fun e => (hfar.resolve_left (by omega)) _ rfl (by rw [← e] at hgF; exact hgF)
        obtain ⟨b0, b1, _⟩ := hD5.cells
        obtain ⟨z0, z1, z2, z3, z4, aF⟩ := hD5.at_ hlt
        rw [upd_at] at z1 z2 z3 z4
        obtain ⟨C6, hD6⟩ := hD5.put3 hlt (f j).d (f j).k (f j).t (hft j hjm)
        have hc6 := chg_put3 hc5 hgF j (.int .i64 (f j).d) (.int .i64 (f j).k) (.int .u8 ((f j).t : Int))
        rw [upd_upd, upd_at] at hD6
        have hkp : (put3 w5 g j (.int .i64 (f j).d) (.int .i64 (f j).k) (.int .u8 ((f j).t : Int))).drew.heap[p]? = w5.heap[p]? ∧ (put3 w5 g j (.int .i64 (f j).d) (.int .i64 (f j).k) (.int .u8 ((f j).t : Int))).drew.heap[fb]? = w5.heap[fb]? := by rw [heap_drew]; exact ⟨put3_block w5 _ _ _ _ _ hpg, put3_block w5 _ _ _ _ _ hfg⟩
        replace hD6 := hide_it hD6
        replace hc6 := hide_it hc6
        clear hD5 hc5 hfs5 hfc hfs b0
        go_wp2_with fail
        refine wp_region_held_drew (S := (fun w' => w'.heap[p]? = w5.heap[p]? ∧ w'.heap[fb]? = w5.heap[fb]?)) (by kernel_rfl) ?_ (fun hHeld => ?_)
        · exact ⟨rfl, rfl⟩
        refine take_on (i := 0) (v := ?_) rfl rfl (by kernel_rfl) (by kernel_rfl) (by kernel_rfl) (fun _ _ _ h => h) rfl ?_ hHeld ?_
        rotate_left
        · (intro wq hSq; have q0 := (World.cell?_of_block (w := w5) (a := ⟨p, 1, none⟩) hSq.1).trans b1; have q1 := (World.cell?_of_block (w := w5) (a := ⟨fb, fo + j * 3, none⟩) hSq.2).trans f1; have q2 := (World.cell?_of_block (w := w5) (a := ⟨fb, fo + j * 3 + 1, none⟩) hSq.2).trans f2; have q3 := (World.cell?_of_block (w := w5) (a := ⟨fb, fo + j * 3 + 2, none⟩) hSq.2).trans f3; go_simp <;> first | with_reducible rfl | rfl)
        simp only [Act.put, List.setIfInBounds_toArray, List.set_cons_zero, List.set_cons_succ]
        refine take_on (i := 1) (v := ?_) rfl rfl (by kernel_rfl) (by kernel_rfl) (by kernel_rfl) (fun _ _ _ h => h) rfl ?_ hHeld ?_
        rotate_left
        · (intro wq hSq; have q0 := (World.cell?_of_block (w := w5) (a := ⟨p, 1, none⟩) hSq.1).trans b1; have q1 := (World.cell?_of_block (w := w5) (a := ⟨fb, fo + j * 3, none⟩) hSq.2).trans f1; have q2 := (World.cell?_of_block (w := w5) (a := ⟨fb, fo + j * 3 + 1, none⟩) hSq.2).trans f2; have q3 := (World.cell?_of_block (w := w5) (a := ⟨fb, fo + j * 3 + 2, none⟩) hSq.2).trans f3; go_simp <;> first | with_reducible rfl | rfl)
        simp only [Act.put, List.setIfInBounds_toArray, List.set_cons_zero, List.set_cons_succ]
        refine take_on (i := 2) (v := ?_) rfl rfl (by kernel_rfl) (by kernel_rfl) (by kernel_rfl) (fun _ _ _ h => h) rfl ?_ hHeld ?_
        rotate_left
        · (intro wq hSq; have q0 := (World.cell?_of_block (w := w5) (a := ⟨p, 1, none⟩) hSq.1).trans b1; have q1 := (World.cell?_of_block (w := w5) (a := ⟨fb, fo + j * 3, none⟩) hSq.2).trans f1; have q2 := (World.cell?_of_block (w := w5) (a := ⟨fb, fo + j * 3 + 1, none⟩) hSq.2).trans f2; have q3 := (World.cell?_of_block (w := w5) (a := ⟨fb, fo + j * 3 + 2, none⟩) hSq.2).trans f3; go_simp <;> first | with_reducible rfl | rfl)
        simp only [Act.put, List.setIfInBounds_toArray, List.set_cons_zero, List.set_cons_succ]
        refine take_on (i := 3) (v := ?_) rfl rfl (by kernel_rfl) (by kernel_rfl) (by kernel_rfl) (fun _ _ _ h => h) rfl ?_ hHeld ?_
        rotate_left
        · (intro wq hSq; have q0 := (World.cell?_of_block (w := w5) (a := ⟨p, 1, none⟩) hSq.1).trans b1; have q1 := (World.cell?_of_block (w := w5) (a := ⟨fb, fo + j * 3, none⟩) hSq.2).trans f1; have q2 := (World.cell?_of_block (w := w5) (a := ⟨fb, fo + j * 3 + 1, none⟩) hSq.2).trans f2; have q3 := (World.cell?_of_block (w := w5) (a := ⟨fb, fo + j * 3 + 2, none⟩) hSq.2).trans f3; go_simp <;> first | with_reducible rfl | rfl)
        simp only [Act.put, List.setIfInBounds_toArray, List.set_cons_zero, List.set_cons_succ]
        refine take_on (i := 4) (v := ?_) rfl rfl (by kernel_rfl) (by kernel_rfl) (by kernel_rfl) (fun _ _ _ h => h) rfl ?_ hHeld ?_
        rotate_left
        · (intro wq hSq; have q0 := (World.cell?_of_block (w := w5) (a := ⟨p, 1, none⟩) hSq.1).trans b1; have q1 := (World.cell?_of_block (w := w5) (a := ⟨fb, fo + j * 3, none⟩) hSq.2).trans f1; have q2 := (World.cell?_of_block (w := w5) (a := ⟨fb, fo + j * 3 + 1, none⟩) hSq.2).trans f2; have q3 := (World.cell?_of_block (w := w5) (a := ⟨fb, fo + j * 3 + 2, none⟩) hSq.2).trans f3; go_simp <;> first | with_reducible rfl | rfl)
        simp only [Act.put, List.setIfInBounds_toArray, List.set_cons_zero, List.set_cons_succ]
        refine take_on (i := 5) (v := ?_) rfl rfl (by kernel_rfl) (by kernel_rfl) (by kernel_rfl) (fun _ _ _ h => h) rfl ?_ hHeld ?_
        rotate_left
        · (intro wq hSq; have q0 := (World.cell?_of_block (w := w5) (a := ⟨p, 1, none⟩) hSq.1).trans b1; have q1 := (World.cell?_of_block (w := w5) (a := ⟨fb, fo + j * 3, none⟩) hSq.2).trans f1; have q2 := (World.cell?_of_block (w := w5) (a := ⟨fb, fo + j * 3 + 1, none⟩) hSq.2).trans f2; have q3 := (World.cell?_of_block (w := w5) (a := ⟨fb, fo + j * 3 + 2, none⟩) hSq.2).trans f3; go_simp <;> first | with_reducible rfl | rfl)
        simp only [Act.put, List.setIfInBounds_toArray, List.set_cons_zero, List.set_cons_succ]
        refine take_on (i := 6) (v := ?_) rfl rfl (by kernel_rfl) (by kernel_rfl) (by kernel_rfl) (fun _ _ _ h => h) rfl ?_ hHeld ?_
        rotate_left
        · (intro wq hSq; have q0 := (World.cell?_of_block (w := w5) (a := ⟨p, 1, none⟩) hSq.1).trans b1; have q1 := (World.cell?_of_block (w := w5) (a := ⟨fb, fo + j * 3, none⟩) hSq.2).trans f1; have q2 := (World.cell?_of_block (w := w5) (a := ⟨fb, fo + j * 3 + 1, none⟩) hSq.2).trans f2; have q3 := (World.cell?_of_block (w := w5) (a := ⟨fb, fo + j * 3 + 2, none⟩) hSq.2).trans f3; go_simp <;> first | with_reducible rfl | rfl)
        simp only [Act.put, List.setIfInBounds_toArray, List.set_cons_zero, List.set_cons_succ]
        refine take_on (i := 7) (v := ?_) rfl rfl (by kernel_rfl) (by kernel_rfl) (by kernel_rfl) (fun _ _ _ h => h) rfl ?_ hHeld ?_
        rotate_left
        · (intro wq hSq; have q0 := (World.cell?_of_block (w := w5) (a := ⟨p, 1, none⟩) hSq.1).trans b1; have q1 := (World.cell?_of_block (w := w5) (a := ⟨fb, fo + j * 3, none⟩) hSq.2).trans f1; have q2 := (World.cell?_of_block (w := w5) (a := ⟨fb, fo + j * 3 + 1, none⟩) hSq.2).trans f2; have q3 := (World.cell?_of_block (w := w5) (a := ⟨fb, fo + j * 3 + 2, none⟩) hSq.2).trans f3; go_simp <;> first | with_reducible rfl | rfl)
        simp only [Act.put, List.setIfInBounds_toArray, List.set_cons_zero, List.set_cons_succ]
        refine take_on (i := 8) (v := ?_) rfl rfl (by kernel_rfl) (by kernel_rfl) (by kernel_rfl) (fun _ _ _ h => h) rfl ?_ hHeld ?_
        rotate_left
        · (intro wq hSq; have q0 := (World.cell?_of_block (w := w5) (a := ⟨p, 1, none⟩) hSq.1).trans b1; have q1 := (World.cell?_of_block (w := w5) (a := ⟨fb, fo + j * 3, none⟩) hSq.2).trans f1; have q2 := (World.cell?_of_block (w := w5) (a := ⟨fb, fo + j * 3 + 1, none⟩) hSq.2).trans f2; have q3 := (World.cell?_of_block (w := w5) (a := ⟨fb, fo + j * 3 + 2, none⟩) hSq.2).trans f3; go_simp <;> first | with_reducible rfl | rfl)
        simp only [Act.put, List.setIfInBounds_toArray, List.set_cons_zero, List.set_cons_succ]
        refine take_on (i := 9) (v := ?_) rfl rfl (by kernel_rfl) (by kernel_rfl) (by kernel_rfl) (fun _ _ _ h => h) rfl ?_ hHeld ?_
        rotate_left
        · (intro wq hSq; have q0 := (World.cell?_of_block (w := w5) (a := ⟨p, 1, none⟩) hSq.1).trans b1; have q1 := (World.cell?_of_block (w := w5) (a := ⟨fb, fo + j * 3, none⟩) hSq.2).trans f1; have q2 := (World.cell?_of_block (w := w5) (a := ⟨fb, fo + j * 3 + 1, none⟩) hSq.2).trans f2; have q3 := (World.cell?_of_block (w := w5) (a := ⟨fb, fo + j * 3 + 2, none⟩) hSq.2).trans f3; go_simp <;> first | with_reducible rfl | rfl)
        simp only [Act.put, List.setIfInBounds_toArray, List.set_cons_zero, List.set_cons_succ]
        refine take_on (i := 10) (v := ?_) rfl rfl (by kernel_rfl) (by kernel_rfl) (by kernel_rfl) (fun _ _ _ h => h) rfl ?_ hHeld ?_
        rotate_left
        · (intro wq hSq; have q0 := (World.cell?_of_block (w := w5) (a := ⟨p, 1, none⟩) hSq.1).trans b1; have q1 := (World.cell?_of_block (w := w5) (a := ⟨fb, fo + j * 3, none⟩) hSq.2).trans f1; have q2 := (World.cell?_of_block (w := w5) (a := ⟨fb, fo + j * 3 + 1, none⟩) hSq.2).trans f2; have q3 := (World.cell?_of_block (w := w5) (a := ⟨fb, fo + j * 3 + 2, none⟩) hSq.2).trans f3; go_simp <;> first | with_reducible rfl | rfl)
        simp only [Act.put, List.setIfInBounds_toArray, List.set_cons_zero, List.set_cons_succ]
        refine take_one (i := 11) rfl (by kernel_rfl) (fun K hK => ?_)
        go_simp
        skip
        try go_wp2_with fail
        refine hK.out _ _ ?_ (fun hHeld => ?_)
        · exact hkp
        clear hK K
        try simp only [Act.put, List.setIfInBounds_toArray, List.set_cons_zero, List.set_cons_succ]
        refine wpAnyH_done (by kernel_rfl) ?_ _
        clear hkp hHeld
        go_wp2_with fail
        go_roundw
        case rel =>
          refine ⟨j + 1, by omega, by go_num, ⟨C6, ?_⟩, hc6.out.drew⟩
          have h9 := hD6.out.drew
          rw [show ({ s j with fd := (f j).d, fk := (f j).k, ft := (f j).t, c := 0 } : Pt) = armX (s j) m f j by unfold armX; rw [if_pos hjm, if_pos hjm, if_pos hjm], armTo_succ] at h9
          exact h9
        case measure => simp [intOf]; omega
      · go_wp2_with fail
        go_roundw
        case rel =>
          refine ⟨j + 1, by omega, by go_num, ⟨C5, ?_⟩, hc5⟩
          rw [show ({ s j with fd := 0, fk := 0, ft := 0, c := 0 } : Pt) = armX (s j) m f j by unfold armX; rw [if_neg hjm, if_neg hjm, if_neg hjm], armTo_succ] at hD5
          exact hD5
        case measure => simp [intOf]; omega
    · obtain rfl : j = n := by omega
      go_wp2_with fail
      go_end0
      exact ⟨rfl, ⟨⟨_, _, _, _, hD.mono (fun _ hb => .inl hb) (fun b hb => by
        rcases hb with hb | hb
        · exact hD.lt b hb
        · exact hb.2)⟩, hc⟩⟩
end

end Go.Proofs.YtkacfpmninmjkaaGreat

namespace Go.Proofs.YtkacfpmninmjkaaGreat
open Go.RowKit

/-- How many loose bytes of an area are kept. -/
def kpt (x : Pt) : Nat := min x.fk.toNat (x.bs.length - x.k)
/-- An area behind a loss of power. -/
def strX (x : Pt) : Pt := { x with bs := crashB x.bs x.k (kpt x) x.ft, k := x.k + kpt x }
def strTo (s : Nat → Pt) (j i : Nat) : Pt := if i < j then strX (s i) else s i
theorem strTo_zero (s : Nat → Pt) : strTo s 0 = s := by funext i; unfold strTo; rw [if_neg (by omega)]
theorem strTo_at (s : Nat → Pt) (j : Nat) : strTo s j j = s j := if_neg (by omega)
theorem strTo_succ (s : Nat → Pt) (j : Nat) : upd (strTo s j) j (strX (s j)) = strTo s (j + 1) := by
  funext i
  unfold upd strTo
  by_cases h : i = j
  · subst h; rw [if_pos rfl, if_pos (by omega)]
  · rw [if_neg h]
    by_cases h2 : i < j
    · rw [if_pos h2, if_pos (by omega)]
    · rw [if_neg h2, if_neg (by omega)]
/-- All areas of a disk behind a Strike. -/
def strS (s : Nat → Pt) (n : Nat) : Nat → Pt := armTo (strTo s n) 0 (fun _ => ⟨0, 0, 0⟩) n

set_option maxRecDepth 100000 in
set_option maxHeartbeats 400000 in
theorem arm_nil (fa : Option Addr) (m cap : Nat) (w : World) : Calls Tryz.prog 26 #[.pointer none, .slice fa m cap] w fun e w' => e = .returned (.tuple #[]) ∧ w' = w := by
  go_enter Tryz.func26, Tryz.ntmps26
  go_wp2_with fail
  exact bodyPost_ret (v := .tuple #[]) (by simp [results, Tryz.results26, go_sem]) rfl ⟨rfl, rfl⟩
set_option maxRecDepth 100000 in
set_option maxHeartbeats 400000 in
theorem strike_nil (w : World) : Calls Tryz.prog 27 #[.pointer none] w fun e w' => e = .returned (.tuple #[]) ∧ w' = w := by
  go_enter Tryz.func27, Tryz.ntmps27
  go_wp2_with fail
  exact bodyPost_ret (v := .tuple #[]) (by simp [results, Tryz.results27, go_sem]) rfl ⟨rfl, rfl⟩

section
variable {w : World} {F : Nat → Prop} {p : Nat} {am : Bool} {n : Nat} {s : Nat → Pt}
set_option maxRecDepth 100000 in
set_option maxHeartbeats 400000 in
theorem arm_ok (h : Dsk w F p am n s) (fa : Option Addr) (m cap : Nat) (f : Nat → Fte) (hfs : RowF w fa m f) (hfar : m = 0 ∨ farA F fa) (hft : ∀ i, i < m → (f i).t < 256) :
    Calls Tryz.prog 26 #[.pointer (some ⟨p, 0, none⟩), .slice fa m cap] w fun e w' => e = .returned (.tuple #[]) ∧ Went w F p true n (armTo s m f n) w' := by
  obtain ⟨g, C, q, v, h⟩ := h
  have hb := begin_any h true fa m cap f hfs hfar hft
  clear h hfs hfar hft
  go_enter Tryz.func26, Tryz.ntmps26
  go_wp2_with fail
  refine hb.mono ?_
  rintro e w1 ⟨rfl, hw⟩
  clear hb
  go_wp2_with fail
  go_end0
  exact ⟨rfl, hw⟩

set_option maxRecDepth 100000 in
set_option maxHeartbeats 1600000 in
theorem strike_ok (h : Dsk w F p am n s) :
    Calls Tryz.prog 27 #[.pointer (some ⟨p, 0, none⟩)] w fun e w' => e = .returned (.tuple #[]) ∧ Went w F p false n (strS s n) w' := by
  obtain ⟨g, C, q, v, h⟩ := h
  obtain ⟨d0, d1, df⟩ := h.cells
  have hn := h.few.2
  have hF0 := h.lt
  replace h := hide_it h
  go_enter Tryz.func27, Tryz.ntmps27
  go_wp2_with fail
  go_loopw [11, 3] (fun i _ wr => ∃ j : Nat, j ≤ n ∧ i = .int .i64 (j : Int) ∧ Hid ((∃ v', Dk wr (upto F w wr) p am n (strTo s j) g C q v') ∧ Chg F w wr)) (fun i _ _ => n - (intOf i).toNat)
  case atStart => exact ⟨0, by omega, rfl, ⟨v, by rw [strTo_zero]; exact h.out.mono (fun _ hb => .inl hb) (fun b hb => by
    rcases hb with hb | hb
    · exact h.out.lt b hb
    · exact hb.2)⟩, Chg.refl _ _⟩
  case round =>
    obtain ⟨j, hj, rfl, hR⟩ := hrel
    clear d0 d1 df h
    obtain ⟨⟨v', hD⟩, hc⟩ := hR.out
    clear hR
    by_cases hlt : j < n
    · obtain ⟨a0, a1, a2, a3, a4, aF⟩ := hD.at_ hlt
      rw [strTo_at] at a1 a2 a3 a4
      have hb3 : Below wr.heap.size wr (wr.alloc (.cells #[.pointer (some ⟨q j, 0, none⟩), .int .i64 (s j).fd, .int .i64 (s j).fk, .int .u8 ((s j).ft : Int), .int .i64 ((s j).c : Int)] 86)) := (Below.refl _ _).alloc (Nat.le_refl _) _
      have hD3 := hD.below hb3
      have hc3 : Chg F w _ := hc.trans (Chg.new (S := F) hb3) (fun _ _ x => x)
      have hcr := crash_any _ (hD3.ar j hlt) (hD3.le j hlt) (s j).fk (s j).ft (by have := hD3.ft j hlt; rw [strTo_at] at this; exact this) (kpt (s j)) (by rw [strTo_at]; rfl)
      rw [strTo_at] at hcr
      have hfin : ∀ w2, Moved _ (q j) 0 (v' j) (s j).B (crashB (s j).bs (s j).k (kpt (s j)) (s j).ft) ((s j).k + kpt (s j)) w2 → (∃ v', Dk w2 (upto F w w2) p am n (strTo s (j + 1)) g C q v') ∧ Chg F w w2 := fun w2 hm => by
        have hk : (s j).k + kpt (s j) ≤ (s j).bs.length := by
          have := hD3.le j hlt
          rw [strTo_at] at this
          unfold kpt; omega
        obtain ⟨⟨v2, h2⟩, hc2⟩ := hD3.moved hlt hm (by rw [crashB_len _ _ _ _ hk]; exact Nat.le_refl _)
        rw [strTo_at] at h2
        have e2 := strTo_succ s j
        unfold strX at e2
        rw [e2] at h2
        have hs3 := hc3.size
        have hs2 := hc2.size
        have hsw := hc.size
        refine ⟨⟨v2, h2.mono (fun b hb => ?_) (fun b hb => ?_)⟩, hc3.trans hc2 (fun b hb hu => ?_)⟩
        · rcases hb with (hb | hb) | hb
          · exact .inl hb
          · exact .inr (by simp at hs2; omega)
          · exact .inr (by simp at hb; omega)
        · rcases hb with hb | hb
          · have := hF0 b hb; omega
          · exact hb.2
        · rcases hu with hu | hu
          · exact hu
          · omega
      replace hfin := hide_it hfin
      clear hD hD3 hc hc3 hb3
      go_wp2_with fail
      refine hcr.mono ?_
      rintro e w2 ⟨rfl, hm⟩
      have hR := hfin.out w2 hm
      clear hcr hfin hm
      go_wp2_with fail
      go_roundw
      case rel => exact ⟨j + 1, by omega, by go_num, hR⟩
      case measure => simp [intOf]; omega
    · obtain rfl : j = n := by omega
      have hbg := begin_any hD false none 0 0 (fun _ => ⟨0, 0, 0⟩) (.inl rfl) (.inl rfl) (fun i hi => by omega)
      have hW : ∀ w2, Went wr (upto F w wr) p false j (armTo (strTo s j) 0 (fun _ => ⟨0, 0, 0⟩) j) w2 → Went w F p false j (strS s j) w2 := fun w2 hw =>
        Went.trans ⟨⟨_, _, _, _, hD⟩, hc⟩ hw
      replace hW := hide_it hW
      clear hD hc
      go_wp2_with fail
      refine hbg.mono ?_
      rintro e w2 ⟨rfl, hw⟩
      have hR := hW.out w2 hw
      clear hbg hW hw
      go_wp2_with fail
      go_end0
      exact ⟨rfl, hR⟩
end

end Go.Proofs.YtkacfpmninmjkaaGreat

namespace Go.Proofs.YtkacfpmninmjkaaGreat
open Go.RowKit

theorem made_at (Z : Array Value) (n z i j : Nat) (hz : Z.size = z) (hi : i < n) (hj : j < z) : (madeCells Z (n * z))[i * z + j]? = Z[j]? := by
  have h1 : i * z + j < n * z := by
    have := Nat.mul_le_mul_right z (show i + 1 ≤ n by omega)
    rw [Nat.add_mul, Nat.one_mul] at this
    omega
  have h2 : (i * z + j) % z = j := by rw [Nat.mul_comm, Nat.mul_add_mod, Nat.mod_eq_of_lt hj]
  unfold madeCells
  rw [Array.getElem?_map, Array.getElem?_range, if_pos h1, hz]
  simp only [Option.map_some, h2]
  rw [getElem!_pos Z j (by omega), Array.getElem?_eq_getElem (by omega)]
theorem infoSpan : (Tryz.prog.info? 80).map (fun i => (i.zero.map Value.cells, i.size, i.bytes)) = some (some #[.int .i64 0, .slice none 0 0], 2, 32) := by kernel_rfl
theorem infoPart : (Tryz.prog.info? 86).map (fun i => (i.zero.map Value.cells, i.size, i.bytes)) = some (some #[.pointer none, .int .i64 0, .int .i64 0, .int .u8 0, .int .i64 0], 5, 40) := by kernel_rfl
/-- 'make' of n structs. -/
theorem mk_any (t e : TypeId) (Z : Array Value) (z b : Nat) (ht : Tryz.prog.underlying t = some (.slice e)) (hi : (Tryz.prog.info? e).map (fun i => (i.zero.map Value.cells, i.size, i.bytes)) = some (some Z, z, b)) (n : Nat) (hb : b * n ≤ 281474976710656) (hn : n ≤ 281474976710656) (w : World) :
    (Instr.makeSlice t (.int .i64 (n : Int)) (.int .i64 (n : Int))).run Tryz.prog w = .ok (.slice (some ⟨w.heap.size, 0, none⟩) n n) (w.alloc (.cells (madeCells Z (n * z)) e)) := by
  cases h : Tryz.prog.info? e with
  | none => rw [h] at hi; cases hi
  | some i =>
    rw [h] at hi
    simp only [Option.map_some, Option.some.injEq, Prod.mk.injEq] at hi
    obtain ⟨h1, h2, h3⟩ := hi
    cases hz : i.zero with
    | none => rw [hz] at h1; cases h1
    | some zv =>
      rw [hz] at h1
      simp only [Option.map_some, Option.some.injEq] at h1
      have hbb : (i.bytes : Int) * (n : Int) ≤ 281474976710656 := by
        rw [h3]
        have : ((b * n : Nat) : Int) ≤ 281474976710656 := by omega
        rwa [Int.natCast_mul] at this
      have hr := run_make (P := Tryz.prog) w t e i zv ht h hz .i64 .i64 (n : Int) (n : Int) (by omega) (by omega) hbb (by omega)
      rw [Int.toNat_natCast, h1, h2] at hr
      exact hr

end Go.Proofs.YtkacfpmninmjkaaGreat

namespace Go.Proofs.YtkacfpmninmjkaaGreat
open Go.RowKit

/-- In block X lie spans, n of them: their bases and bytes T, their slices r, all in blocks from base on, each in a block of its own. -/
structure Spans (w : World) (base X n : Nat) (T : Nat → Nat × List Nat) (r : Nat → Value) : Prop where
  blk : ∃ D, w.heap[X]? = some (.cells D 80 (0, 0)) ∧ ∀ i, i < n → D[i * 2]? = some (.int .i64 ((T i).1 : Int)) ∧ D[i * 2 + 1]? = some (r i)
  own : ∀ i, i < n → OwB w base (r i) (T i).2
  low : base ≤ X
  apart : ∀ i j, i < n → j < n → i ≠ j → ∀ b, (r i).ownBlock = some b → (r j).ownBlock ≠ some b
  far : ∀ i, i < n → (r i).ownBlock ≠ some X

section
variable {w w' : World} {base X n : Nat} {T : Nat → Nat × List Nat} {r : Nat → Value}
theorem Spans.lt (h : Spans w base X n T r) : X < w.heap.size := by
  obtain ⟨D, h1, _⟩ := h.blk
  exact (Array.getElem?_eq_some_iff.1 h1).1
theorem Spans.keep (h : Spans w base X n T r) (hk : ∀ b, base ≤ b → b < w.heap.size → w'.heap[b]? = w.heap[b]?) : Spans w' base X n T r := by
  obtain ⟨D, h1, h2⟩ := h.blk
  exact ⟨⟨D, (hk X h.low h.lt).trans h1, h2⟩, fun i hi => (h.own i hi).keep fun j hj => hk j ((h.own i hi).inside j hj).1 ((h.own i hi).inside j hj).2, h.low, h.apart, h.far⟩
theorem Spans.below (h : Spans w base X n T r) (hb : Below w.heap.size w w') : Spans w' base X n T r := h.keep fun b _ hl => hb.block b hl
theorem Spans.chg {F : Nat → Prop} (h : Spans w base X n T r) (hc : Chg F w w') (hF : ∀ b, F b → b < base) : Spans w' base X n T r := h.keep fun b hb hl => hc.block b hl fun hf => by have := hF b hf; omega
theorem Spans.cells (h : Spans w base X n T r) {i : Nat} (hi : i < n) : w.cell? ⟨X, i * 2, none⟩ = some (.int .i64 ((T i).1 : Int)) ∧ w.cell? ⟨X, i * 2 + 1, none⟩ = some (r i) := by
  obtain ⟨D, h1, h2⟩ := h.blk
  exact ⟨(cell_of_row _ _ _ _ _ _ h1).trans (h2 i hi).1, (cell_of_row _ _ _ _ _ _ h1).trans (h2 i hi).2⟩
end

/-- The first j of n spans are laid; the rest is zero. -/
structure SpTo (w : World) (base X n : Nat) (T : Nat → Nat × List Nat) (r : Nat → Value) (j : Nat) : Prop where
  blk : ∃ D, w.heap[X]? = some (.cells D 80 (0, 0)) ∧ D.size = n * 2 ∧ ∀ i, i < j → D[i * 2]? = some (.int .i64 ((T i).1 : Int)) ∧ D[i * 2 + 1]? = some (r i)
  own : ∀ i, i < j → OwB w base (r i) (T i).2
  low : base ≤ X
  apart : ∀ i k, i < j → k < j → i ≠ k → ∀ b, (r i).ownBlock = some b → (r k).ownBlock ≠ some b
  far : ∀ i, i < j → (r i).ownBlock ≠ some X
theorem SpTo.lt {w : World} {base X n : Nat} {T : Nat → Nat × List Nat} {r : Nat → Value} {j : Nat} (h : SpTo w base X n T r j) : X < w.heap.size := by
  obtain ⟨D, h1, _⟩ := h.blk
  exact (Array.getElem?_eq_some_iff.1 h1).1
theorem SpTo.below {w w' : World} {base X n : Nat} {T : Nat → Nat × List Nat} {r : Nat → Value} {j : Nat} (h : SpTo w base X n T r j) (hb : Below w.heap.size w w') : SpTo w' base X n T r j := by
  obtain ⟨D, h1, h2⟩ := h.blk
  exact ⟨⟨D, (hb.block X h.lt).trans h1, h2⟩, fun i hi => (h.own i hi).below hb, h.low, h.apart, h.far⟩
theorem SpTo.cells {w : World} {base X n : Nat} {T : Nat → Nat × List Nat} {r : Nat → Value} {j : Nat} (h : SpTo w base X n T r j) {i : Nat} (hi : i < n) : (∃ u, w.cell? ⟨X, i * 2, none⟩ = some u) ∧ (∃ u, w.cell? ⟨X, i * 2 + 1, none⟩ = some u) ∧ ∀ o, w.frozen? ⟨X, o, none⟩ = false := by
  obtain ⟨D, h1, h2, _⟩ := h.blk
  exact ⟨⟨_, (cell_of_row _ _ _ _ _ _ h1).trans (Array.getElem?_eq_getElem (by omega))⟩, ⟨_, (cell_of_row _ _ _ _ _ _ h1).trans (Array.getElem?_eq_getElem (by omega))⟩, fun o => frozen_of_row _ _ _ _ _ h1⟩
/-- One more. -/
theorem SpTo.put {w w4 : World} {base X n : Nat} {T : Nat → Nat × List Nat} {r : Nat → Value} {j : Nat} (h : SpTo w base X n T r j) (hj : j < n) (hb : Below w.heap.size w w4) {u : Value} (hu : OwB w4 w.heap.size u (T j).2) (hbase : base ≤ w.heap.size) :
    SpTo ((w4.setCell ⟨X, j * 2, none⟩ (.int .i64 ((T j).1 : Int))).setCell ⟨X, j * 2 + 1, none⟩ u) base X n T (fun i => if i = j then u else r i) (j + 1) := by
  obtain ⟨D, h1, h2, h3⟩ := (h.below hb).blk
  have hXl := h.lt
  have huX : u.ownBlock ≠ some X := fun e => by have := (hu.inside X e).1; omega
  have hk : ∀ b, b ≠ X → ((w4.setCell ⟨X, j * 2, none⟩ (.int .i64 ((T j).1 : Int))).setCell ⟨X, j * 2 + 1, none⟩ u).heap[b]? = w4.heap[b]? := fun b hne => (Below.heap_setCell _ _ _ _ hne).trans (Below.heap_setCell _ _ _ _ hne)
  refine ⟨⟨_, heap_setCell_same _ X _ _ _ _ (heap_setCell_same w4 X _ _ _ _ h1), by simpa using h2, fun i hi => ?_⟩, fun i hi => ?_, h.low, fun i k hi hk' hik b hb1 hb2 => ?_, fun i hi => ?_⟩
  · by_cases e : i = j
    · subst e
      rw [if_pos rfl]
      refine ⟨?_, ?_⟩
      · rw [Array.getElem?_setIfInBounds_ne (by omega), Array.getElem?_setIfInBounds_self_of_lt (by omega)]
      · rw [Array.getElem?_setIfInBounds_self_of_lt (by simp; omega)]
    · rw [if_neg e]
      have h4 := h3 i (by omega)
      refine ⟨?_, ?_⟩
      · rw [Array.getElem?_setIfInBounds_ne (by omega), Array.getElem?_setIfInBounds_ne (by omega)]; exact h4.1
      · rw [Array.getElem?_setIfInBounds_ne (by omega), Array.getElem?_setIfInBounds_ne (by omega)]; exact h4.2
  · by_cases e : i = j
    · subst e
      rw [if_pos rfl]
      exact (hu.mono hbase).keep fun b hb' => hk b fun e => huX (by rw [hb', e])
    · rw [if_neg e]
      have h4 := h.own i (by omega)
      exact (h4.below hb).keep fun b hb' => hk b fun e => h.far i (by omega) (by rw [hb', e])
  · by_cases ei : i = j
    · have ek : k ≠ j := fun e => hik (by omega)
      rw [if_pos ei] at hb1
      rw [if_neg ek] at hb2
      have := (hu.inside b hb1).1
      have := ((h.own k (by omega)).inside b hb2).2
      omega
    · rw [if_neg ei] at hb1
      by_cases ek : k = j
      · rw [if_pos ek] at hb2
        have := (hu.inside b hb2).1
        have := ((h.own i (by omega)).inside b hb1).2
        omega
      · rw [if_neg ek] at hb2
        exact h.apart i k (by omega) (by omega) hik b hb1 hb2
  · by_cases e : i = j
    · rw [if_pos e]; exact huX
    · rw [if_neg e]; exact h.far i (by omega)
theorem SpTo.done {w : World} {base X n : Nat} {T : Nat → Nat × List Nat} {r : Nat → Value} (h : SpTo w base X n T r n) : Spans w base X n T r := by
  obtain ⟨D, h1, _, h2⟩ := h.blk
  exact ⟨⟨D, h1, h2⟩, h.own, h.low, h.apart, h.far⟩

/-- The safe bytes of an area. -/
def safeT (s : Nat → Pt) (i : Nat) : Nat × List Nat := ((s i).B, (s i).bs.take (s i).k)

/-- What Image answers. -/
structure ImgD (w : World) (n : Nat) (T : Nat → Nat × List Nat) (e : Ending) (w' : World) : Prop where
  ex : ∃ X r, e = .returned (.slice (some ⟨X, 0, none⟩) n n) ∧ Spans w' w.heap.size X n T r
  bel : Below w.heap.size w w'









section
variable {w : World} {F : Nat → Prop} {p : Nat} {am : Bool} {n : Nat} {s : Nat → Pt}



































































end

end Go.Proofs.YtkacfpmninmjkaaGreat

namespace Go.Proofs.YtkacfpmninmjkaaGreat
open Go.RowKit

set_option maxRecDepth 100000 in
set_option maxHeartbeats 400000 in
theorem mayN_any (I : Int) (w : World) : Calls Tryz.prog 32 #[.int .i64 I] w fun e w' => e = .returned (.bool (decide (1 ≤ I ∧ I ≤ 16))) ∧ w' = w := by
  by_cases h1 : 1 ≤ I
  · by_cases h2 : I ≤ 16
    · rw [show decide (1 ≤ I ∧ I ≤ 16) = true by simp [h1, h2]]
      go_enter Tryz.func32, Tryz.ntmps32
      go_wp2
      go_ret
      exact ⟨rfl, rfl⟩
    · rw [show decide (1 ≤ I ∧ I ≤ 16) = false by simp [h2]]
      go_enter Tryz.func32, Tryz.ntmps32
      go_wp2
      go_ret
      exact ⟨rfl, rfl⟩
  · rw [show decide (1 ≤ I ∧ I ≤ 16) = false by simp [h1]]
    go_enter Tryz.func32, Tryz.ntmps32
    go_wp2
    go_ret
    exact ⟨rfl, rfl⟩

/-- A row of spans that came in: bases and slices of bytes. -/
structure Spn where
  B : Int
  a : Option Addr
  c : Nat
  zs : List Nat
def RowS (w : World) (a : Option Addr) (n : Nat) (S : Nat → Spn) : Prop :=
  n = 0 ∨ ∃ b o, a = some ⟨b, o, none⟩ ∧ b < w.heap.size ∧ ∀ i, i < n → w.cell? ⟨b, o + i * 2, none⟩ = some (.int .i64 (S i).B) ∧ w.cell? ⟨b, o + i * 2 + 1, none⟩ = some (.slice (S i).a (S i).zs.length (S i).c)
structure SpnOk (w : World) (x : Spn) : Prop where
  row : RowB w x.a x.zs
  all : All8 x.zs
  nil : x.a = none → x.zs.length = 0 ∧ x.c = 0
  len : x.zs.length ≤ 211106232532800
theorem RowS.below {w w' : World} {a : Option Addr} {n : Nat} {S : Nat → Spn} (h : RowS w a n S) (hb : Below w.heap.size w w') : RowS w' a n S := by
  rcases h with h | ⟨b, o, e, hlt, hc⟩
  · exact .inl h
  · exact .inr ⟨b, o, e, Nat.lt_of_lt_of_le hlt hb.size, fun i hi => ⟨(hb.cell (p := ⟨b, o + i * 2, none⟩) hlt).trans (hc i hi).1, (hb.cell (p := ⟨b, o + i * 2 + 1, none⟩) hlt).trans (hc i hi).2⟩⟩
theorem SpnOk.below {w w' : World} {x : Spn} (h : SpnOk w x) (hb : Below w.heap.size w w') : SpnOk w' x := ⟨h.row.below hb, h.all, h.nil, h.len⟩
/-- May layer 7's Load take it? -/
def okB (x : Spn) : Bool := decide (0 ≤ x.B ∧ x.B ≤ 4611686018427387904)
/-- The area that is made of a span. -/
def ofS (x : Spn) : Pt := ⟨x.B.toNat, x.zs, x.zs.length, 0, 0, 0, 0⟩

/-- The first j of n parts are laid. -/
structure PtTo (w : World) (base g n : Nat) (s : Nat → Pt) (C : Array Value) (q : Nat → Nat) (v : Nat → Value) (j : Nat) : Prop where
  row : w.heap[g]? = some (.cells C 86 (0, 0))
  low : base ≤ g
  five : ∀ i, i < j → Five C i (q i) (s i)
  zero : ∀ i, j ≤ i → i < n → C[i * 5]? = some (.pointer none) ∧ C[i * 5 + 1]? = some (.int .i64 0) ∧ C[i * 5 + 2]? = some (.int .i64 0) ∧ C[i * 5 + 3]? = some (.int .u8 0) ∧ C[i * 5 + 4]? = some (.int .i64 0)
  ar : ∀ i, i < j → Ar w (q i) 0 (v i) (s i).B (s i).bs (s i).k
  sep : ∀ i, i < j → ¬ Ft (q i) (v i) g
  new : ∀ i, i < j → ∀ b, Ft (q i) (v i) b → base ≤ b
  apart : ∀ i k, i < j → k < j → i ≠ k → ∀ b, Ft (q i) (v i) b → ¬ Ft (q k) (v k) b
section
variable {w w' : World} {base g n : Nat} {s : Nat → Pt} {C : Array Value} {q : Nat → Nat} {v : Nat → Value} {j : Nat}
theorem PtTo.lt (h : PtTo w base g n s C q v j) : g < w.heap.size := (Array.getElem?_eq_some_iff.1 h.row).1
theorem PtTo.below (h : PtTo w base g n s C q v j) (hb : Below w.heap.size w w') : PtTo w' base g n s C q v j :=
  ⟨(hb.block g h.lt).trans h.row, h.low, h.five, h.zero, fun i hi => (h.ar i hi).below hb, h.sep, h.new, h.apart⟩
/-- One more. -/
theorem PtTo.put {qj : Nat} {vj : Value} (h : PtTo w base g n s C q v j) (hj : j < n) (hbase : base ≤ w.heap.size) (hb : Below w.heap.size w w') (ha : Ar w' qj 0 vj (s j).B (s j).bs (s j).k) (hz : (s j).fd = 0 ∧ (s j).fk = 0 ∧ (s j).ft = 0 ∧ (s j).c = 0) (hn : ∀ b, Ft qj vj b → w.heap.size ≤ b) :
    ∃ C' q' v', PtTo (w'.setCell ⟨g, j * 5, none⟩ (.pointer (some ⟨qj, 0, none⟩))) base g n s C' q' v' (j + 1) := by
  have h' := h.below hb
  have hgl := h.lt
  have hng : ∀ b, Ft qj vj b → b ≠ g := fun b hb' e => by have := hn b hb'; omega
  have hk : ∀ b, b ≠ g → (w'.setCell ⟨g, j * 5, none⟩ (.pointer (some ⟨qj, 0, none⟩))).heap[b]? = w'.heap[b]? := fun b hne => Below.heap_setCell _ _ _ _ hne
  refine ⟨_, fun i => if i = j then qj else q i, fun i => if i = j then vj else v i, heap_setCell_same w' g _ _ _ _ h'.row, h.low, fun i hi => ?_, fun i hi hin => ?_, fun i hi => ?_, fun i hi => ?_, fun i hi b hb' => ?_, fun i k hi hk' hik b hb1 hb2 => ?_⟩
  · by_cases e : i = j
    · subst e
      obtain ⟨z0, z1, z2, z3, z4⟩ := h.zero i (Nat.le_refl _) hj
      have hl := (Array.getElem?_eq_some_iff.1 z0).1
      obtain ⟨y1, y2, y3, y4⟩ := hz
      rw [if_pos rfl]
      refine ⟨?_, ?_, ?_, ?_, ?_⟩
      · rw [Array.getElem?_setIfInBounds_self_of_lt hl]
      · rw [Array.getElem?_setIfInBounds_ne (by omega), y1]; exact z1
      · rw [Array.getElem?_setIfInBounds_ne (by omega), y2]; exact z2
      · rw [Array.getElem?_setIfInBounds_ne (by omega), y3]; exact z3
      · rw [Array.getElem?_setIfInBounds_ne (by omega), y4]; exact z4
    · rw [if_neg e]
      exact (h.five i (by omega)).set_ne (i := i) (by omega) rfl
  · obtain ⟨z0, z1, z2, z3, z4⟩ := h.zero i (by omega) hin
    refine ⟨?_, ?_, ?_, ?_, ?_⟩ <;> (rw [Array.getElem?_setIfInBounds_ne (by omega)]; assumption)
  · by_cases e : i = j
    · subst e
      rw [if_pos rfl, if_pos rfl]
      exact ha.keep (hk _ (hng _ (.inl rfl))) (fun b hb' => hk b (hng b (.inr hb')))
    · rw [if_neg e, if_neg e]
      exact (h'.ar i (by omega)).keep (hk _ (fun e => h.sep i (by omega) (by rw [← e]; exact .inl rfl))) (fun b hb' => hk b (fun e => h.sep i (by omega) (by rw [← e]; exact .inr hb')))
  · by_cases e : i = j
    · rw [if_pos e, if_pos e]; exact fun hx => hng g hx rfl
    · rw [if_neg e, if_neg e]; exact h.sep i (by omega)
  · by_cases e : i = j
    · rw [if_pos e, if_pos e] at hb'; have := hn b hb'; omega
    · rw [if_neg e, if_neg e] at hb'; exact h.new i (by omega) b hb'
  · by_cases ei : i = j
    · have ek : k ≠ j := fun e => hik (by omega)
      rw [if_pos ei, if_pos ei] at hb1
      rw [if_neg ek, if_neg ek] at hb2
      have := hn b hb1
      have := (h.ar k (by omega)).inside b hb2
      omega
    · rw [if_neg ei, if_neg ei] at hb1
      by_cases ek : k = j
      · rw [if_pos ek, if_pos ek] at hb2
        have := hn b hb2
        have := (h.ar i (by omega)).inside b hb1
        omega
      · rw [if_neg ek, if_neg ek] at hb2
        exact h.apart i k (by omega) (by omega) hik b hb1 hb2
/-- All are laid: a disk. -/
theorem PtTo.done (h : PtTo w base g n s C q v n) (hn : 1 ≤ n ∧ n ≤ 16) (hle : ∀ i, i < n → (s i).k ≤ (s i).bs.length) (hft : ∀ i, i < n → (s i).ft < 256) (hbase : base ≤ w.heap.size) :
    Dsk (w.alloc (.cells #[.bool false, .slice (some ⟨g, 0, none⟩) n n] 88)) (fun b => base ≤ b ∧ b < w.heap.size + 1) w.heap.size false n s := by
  have hb : Below w.heap.size w (w.alloc (.cells #[.bool false, .slice (some ⟨g, 0, none⟩) n n] 88)) := (Below.refl _ _).alloc (Nat.le_refl _) _
  have h' := h.below hb
  have hgl := h.lt
  refine ⟨g, C, q, v, heap_alloc_new w _, h'.row, hn, h.five, h'.ar, hle, hft, by omega, fun i hi => ⟨fun hx => ?_, h.sep i hi⟩, h.apart, fun b hb' => ?_, fun b hb' => by simpa using hb'.2⟩
  · have := (h.ar i hi).inside _ hx; omega
  · rcases hb' with rfl | rfl | ⟨i, hi, hx⟩
    · omega
    · have := h.low; omega
    · have := h.new i hi b hx; have := (h.ar i hi).inside b hx; omega
end

end Go.Proofs.YtkacfpmninmjkaaGreat

namespace Go.Proofs.YtkacfpmninmjkaaGreat
open Go.RowKit

/-- A disk was made. -/
structure MadeD (w : World) (n : Nat) (s : Nat → Pt) (e : Ending) (w' : World) : Prop where
  ex : ∃ p, e = .returned (.tuple #[.pointer (some ⟨p, 0, none⟩), .int .i64 0]) ∧ Dsk w' (fun b => w.heap.size ≤ b ∧ b < w'.heap.size) p false n s
  bel : Below w.heap.size w w'
/-- What Load answers. -/
inductive Lod (w : World) (n : Nat) (S : Nat → Spn) (e : Ending) (w' : World) : Prop
  | ok (h : ∀ i, i < n → okB (S i) = true) (h1 : 1 ≤ n ∧ n ≤ 16) (h2 : MadeD w n (fun i => ofS (S i)) e w')
  | no (h : ¬ ((1 ≤ n ∧ n ≤ 16) ∧ ∀ i, i < n → okB (S i) = true)) (h1 : e = .returned (.tuple #[.pointer none, .int .i64 2])) (h2 : Below w.heap.size w w')

set_option maxRecDepth 100000 in
set_option maxHeartbeats 1600000 in
theorem loadD_any (a : Option Addr) (n c : Nat) (S : Nat → Spn) (w : World) (hS : RowS w a n S) (hok : ∀ i, i < n → SpnOk w (S i)) :
    Calls Tryz.prog 10 #[.slice a n c] w fun e w' => Lod w n S e w' := by
  have hmb := mayN_any (n : Int) w
  by_cases hn : 1 ≤ n ∧ n ≤ 16
  · rw [show decide (1 ≤ (n : Int) ∧ (n : Int) ≤ 16) = true by simp; omega] at hmb
    obtain ⟨b, o, rfl, hbl, hcs⟩ := hS.resolve_left (by omega)
    have hmk := mk_any 81 86 _ 5 40 Tryz.underlying81 infoPart n (by omega) (by omega) w
    have hb0 : Below w.heap.size w (w.alloc (.cells (madeCells #[.pointer none, .int .i64 0, .int .i64 0, .int .u8 0, .int .i64 0] (n * 5)) 86)) := (Below.refl _ _).alloc (Nat.le_refl _) _
    obtain ⟨W0, hW0⟩ : ∃ W0, W0 = w.alloc (.cells (madeCells #[.pointer none, .int .i64 0, .int .i64 0, .int .u8 0, .int .i64 0] (n * 5)) 86) := ⟨_, rfl⟩
    have hnew : W0.heap[w.heap.size]? = some (.cells (madeCells #[.pointer none, .int .i64 0, .int .i64 0, .int .u8 0, .int .i64 0] (n * 5)) 86 (0, 0)) := by rw [hW0]; exact heap_alloc_new w _
    rw [← hW0] at hmk hb0
    have hp0 : PtTo W0 w.heap.size w.heap.size n (fun i => ofS (S i)) (madeCells #[.pointer none, .int .i64 0, .int .i64 0, .int .u8 0, .int .i64 0] (n * 5)) (fun _ => 0) (fun _ => .int .i64 0) 0 :=
      ⟨hnew, Nat.le_refl _, fun i hi => by omega, fun i _ hi => ⟨made_at _ n 5 i 0 rfl hi (by omega), made_at _ n 5 i 1 rfl hi (by omega), made_at _ n 5 i 2 rfl hi (by omega), made_at _ n 5 i 3 rfl hi (by omega), made_at _ n 5 i 4 rfl hi (by omega)⟩,
        fun i hi => by omega, fun i hi => by omega, fun i hi => by omega, fun i k hi => by omega⟩
    obtain ⟨X, hX⟩ : ∃ X, X = w.heap.size := ⟨_, rfl⟩
    rw [← hX] at hmk hp0
    have hXw : w.heap.size ≤ X := by omega
    have hp1 : PtTo W0 w.heap.size X n (fun i => ofS (S i)) (madeCells #[.pointer none, .int .i64 0, .int .i64 0, .int .u8 0, .int .i64 0] (n * 5)) (fun _ => 0) (fun _ => .int .i64 0) 0 := by rw [← hX]; exact hp0
    clear hnew hW0 hX hp0
    replace hp1 := hide_it hp1
    replace hok := hide_it hok
    replace hcs := hide_it hcs
    go_enter Tryz.func10, Tryz.ntmps10
    go_wp2_with fail
    refine hmb.mono ?_
    rintro e w1 ⟨rfl, hw⟩
    have hw2 := hw.symm
    subst hw2
    clear hw hmb
    go_wp2_with fail
    go_loopw [18, 5, 6, 7, 8] (fun i _ _ _ _ wr => ∃ j : Nat, j ≤ n ∧ i = .int .i64 (j : Int) ∧ Hid ((∃ C q v, PtTo wr w.heap.size X n (fun i => ofS (S i)) C q v j) ∧ Below w.heap.size w wr ∧ ∀ i, i < j → okB (S i) = true)) (fun i _ _ _ _ _ => n - (intOf i).toNat)
    case atStart => exact ⟨0, by omega, rfl, ⟨_, _, _, hp1.out⟩, hb0, fun i hi => by omega⟩
    case round =>
      obtain ⟨j, hj, rfl, hR⟩ := hrel
      clear hp1 hb0 hmk
      obtain ⟨⟨C, q, v, hP⟩, hb, hgo⟩ := hR.out
      clear hR
      replace hgo := hide_it hgo
      by_cases hlt : j < n
      · obtain ⟨s0, s1⟩ := hcs.out j hlt
        have t0 := (hb.cell (p := ⟨b, o + j * 2, none⟩) hbl).trans s0
        have t1 := (hb.cell (p := ⟨b, o + j * 2 + 1, none⟩) hbl).trans s1
        have hso := (hok.out j hlt).below hb
        obtain ⟨w3, hw3⟩ : ∃ w3, w3 = wr.alloc (.cells #[.int .i64 (S j).B, .slice (S j).a (S j).zs.length (S j).c] 80) := ⟨_, rfl⟩
        have hb3 : Below wr.heap.size wr w3 := by rw [hw3]; exact (Below.refl _ _).alloc (Nat.le_refl _) _
        have hbw3 := hb.trans (hb3.mono hb.size)
        have hP3 := hP.below hb3
        have hso3 := hso.below hb3
        clear s0 s1 hso hP hb hb3
        by_cases hjo : okB (S j) = true
        · have hBr : 0 ≤ (S j).B ∧ (S j).B ≤ 4611686018427387904 := by unfold okB at hjo; simpa using hjo
          have hld := load_ok w3 (S j).B.toNat (by omega) (S j).a (S j).c (S j).zs hso3.row hso3.all hso3.len hso3.nil
          rw [show (((S j).B.toNat : Nat) : Int) = (S j).B by omega, hw3] at hld
          replace hw3 := hide_it hw3
          replace hBr := hide_it hBr
          replace hjo := hide_it hjo
          obtain ⟨BB, hBB⟩ : ∃ x, x = (S j).B := ⟨_, rfl⟩
          obtain ⟨ll, hll⟩ : ∃ x, x = (S j).zs.length := ⟨_, rfl⟩
          rw [← hBB, ← hll] at hld
          rw [← hBB] at t0
          rw [← hll] at t1
          replace hBB := hide_it hBB
          replace hll := hide_it hll
          clear hso3
          go_wp2_with fail
          refine hld.mono ?_
          rintro e w4 ⟨⟨qj, vj, rfl, ha, hq1, hq2⟩, hb4⟩
          rw [hBB.out, hll.out, ← hw3.out] at hb4 hq1 hq2
          rw [hBB.out] at ha
          obtain ⟨C', q', v', hP4⟩ := hP3.put hlt hbw3.size hb4 (qj := qj) (vj := vj) ha ⟨rfl, rfl, rfl, rfl⟩ (fun b hb' => by
            rcases hb' with rfl | hb'
            · exact hq1
            · exact hq2 b hb')
          have hb5 : Below w.heap.size w (w4.setCell ⟨X, j * 5, none⟩ (.pointer (some ⟨qj, 0, none⟩))) := (hbw3.trans (hb4.mono hbw3.size)).setCell hXw _
          have h4 := hP3.below hb4
          have k0 := (cell_of_row _ _ (j * 5) _ _ _ h4.row).trans (h4.zero j (Nat.le_refl _) hlt).1
          have kf := frozen_of_row _ _ (j * 5) _ _ h4.row
          replace hP4 := hide_it hP4
          replace hb5 := hide_it hb5
          clear hld hw3 hP3 hbw3 ha hb4 hq1 hq2 h4
          go_wp2_with fail
          go_roundw
          case rel => exact ⟨j + 1, by omega, by go_num, ⟨_, _, _, hP4.out⟩, hb5.out, fun i hi => by
            by_cases e : i = j
            · rw [e]; exact hjo.out
            · exact hgo.out i (by omega)⟩
          case measure => simp [intOf]; omega
        · have hBr : (S j).B < 0 ∨ 4611686018427387904 < (S j).B := by unfold okB at hjo; simp at hjo; omega
          have hld := load_no w3 (S j).B (.slice (S j).a (S j).zs.length (S j).c) hBr (S j).a (S j).zs.length (S j).c rfl
          rw [hw3] at hld
          replace hw3 := hide_it hw3
          obtain ⟨BB, hBB⟩ : ∃ x, x = (S j).B := ⟨_, rfl⟩
          obtain ⟨ll, hll⟩ : ∃ x, x = (S j).zs.length := ⟨_, rfl⟩
          rw [← hBB, ← hll] at hld
          rw [← hBB] at t0
          rw [← hll] at t1
          replace hBB := hide_it hBB
          replace hll := hide_it hll
          replace hjo := hide_it hjo
          clear hso3 hBr hP3
          go_wp2_with fail
          refine hld.mono ?_
          rintro e w4 ⟨rfl, hb4⟩
          rw [hBB.out, hll.out, ← hw3.out] at hb4
          have hb5 := hbw3.trans (hb4.mono hbw3.size)
          clear hld hw3 hbw3 hb4
          go_wp2_with fail
          go_ret2
          exact .no (fun hx => hjo.out (hx.2 j hlt)) rfl hb5
      · obtain rfl : j = n := by omega
        have hfin := hP.done hn (fun i _ => Nat.le_refl _) (fun i _ => by show (0 : Nat) < 256; omega) hb.size
        have hb6 : Below w.heap.size w (wr.alloc (.cells #[.bool false, .slice (some ⟨X, 0, none⟩) j j] 88)) := hb.alloc hb.size _
        replace hfin := hide_it hfin
        clear hP
        go_wp2_with fail
        go_ret2
        exact .ok hgo.out hn ⟨⟨wr.heap.size, rfl, by simpa using hfin.out⟩, hb6⟩
  · rw [show decide (1 ≤ (n : Int) ∧ (n : Int) ≤ 16) = false by simp; omega] at hmb
    clear hS hok
    go_enter Tryz.func10, Tryz.ntmps10
    go_wp2_with fail
    refine hmb.mono ?_
    rintro e w1 ⟨rfl, hw⟩
    have hw2 := hw.symm
    subst hw2
    clear hw hmb
    go_wp2_with fail
    go_ret2
    exact .no (fun hx => hn hx.1) rfl (Below.refl _ _)


/-- What New answers. -/
inductive Newd (w : World) (I : Int) (e : Ending) (w' : World) : Prop
  | ok (n : Nat) (hn : I = (n : Int)) (h1 : 1 ≤ n ∧ n ≤ 16) (h2 : MadeD w n (fun _ => ⟨0, [], 0, 0, 0, 0, 0⟩) e w')
  | no (h : I < 1 ∨ 16 < I) (h1 : e = .returned (.tuple #[.pointer none, .int .i64 2])) (h2 : Below w.heap.size w w')

theorem MadeD.behind {w w1 : World} {n : Nat} {s : Nat → Pt} {e : Ending} {w' : World} (hb : Below w.heap.size w w1) (h : MadeD w1 n s e w') : MadeD w n s e w' := by
  obtain ⟨⟨p, h1, h2⟩, h3⟩ := h
  have := hb.size
  exact ⟨⟨p, h1, h2.mono (fun b hb' => by omega) (fun b hb' => hb'.2)⟩, hb.trans (h3.mono hb.size)⟩

set_option maxRecDepth 100000 in
set_option maxHeartbeats 1600000 in
theorem newD_any (I : Int) (w : World) : Calls Tryz.prog 17 #[.int .i64 I] w fun e w' => Newd w I e w' := by
  have hmb := mayN_any I w
  by_cases hI : 1 ≤ I ∧ I ≤ 16
  · rw [show decide (1 ≤ I ∧ I ≤ 16) = true by simp; omega] at hmb
    obtain ⟨n, rfl⟩ : ∃ n : Nat, I = (n : Int) := ⟨I.toNat, by omega⟩
    have hn : 1 ≤ n ∧ n ≤ 16 := by omega
    have hmk := mk_any 22 80 _ 2 32 Tryz.underlying22 infoSpan n (by omega) (by omega) w
    have hb0 : Below w.heap.size w (w.alloc (.cells (madeCells #[.int .i64 0, .slice none 0 0] (n * 2)) 80)) := (Below.refl _ _).alloc (Nat.le_refl _) _
    obtain ⟨W0, hW0⟩ : ∃ W0, W0 = w.alloc (.cells (madeCells #[.int .i64 0, .slice none 0 0] (n * 2)) 80) := ⟨_, rfl⟩
    have hnew : W0.heap[w.heap.size]? = some (.cells (madeCells #[.int .i64 0, .slice none 0 0] (n * 2)) 80 (0, 0)) := by rw [hW0]; exact heap_alloc_new w _
    have hlt : w.heap.size < W0.heap.size := (Array.getElem?_eq_some_iff.1 hnew).1
    rw [← hW0] at hmk hb0
    have hld := loadD_any (some ⟨w.heap.size, 0, none⟩) n n (fun _ => ⟨0, none, 0, []⟩) W0 (.inr ⟨w.heap.size, 0, rfl, hlt, fun i hi => by
      refine ⟨?_, ?_⟩
      · rw [cell_of_row _ _ _ _ _ _ hnew, Nat.zero_add]; exact made_at _ n 2 i 0 rfl hi (by omega)
      · rw [cell_of_row _ _ _ _ _ _ hnew, Nat.zero_add]; exact made_at _ n 2 i 1 rfl hi (by omega)⟩) (fun i _ => ⟨.inl rfl, (fun z hz => by cases hz), (fun _ => ⟨rfl, rfl⟩), (by simp)⟩)
    clear hnew hW0 hlt hI
    go_enter Tryz.func17, Tryz.ntmps17
    go_wp2_with fail
    refine hmb.mono ?_
    rintro e w1 ⟨rfl, hw⟩
    have hw2 := hw.symm
    subst hw2
    clear hw hmb
    go_wp2_with fail
    refine hld.mono ?_
    rintro e w2 hl
    cases hl with
    | ok h1 h2 h3 =>
      obtain ⟨⟨p, rfl, hD⟩, hb2⟩ := h3
      have hD' := hide_it hD
      clear hD h1 hld hmk
      go_wp2_with fail
      go_ret2
      exact .ok n rfl hn (MadeD.behind hb0 ⟨⟨p, rfl, hD'.out⟩, hb2⟩)
    | no h1 h2 h3 =>
      exact absurd ⟨hn, fun i _ => rfl⟩ h1
  · rw [show decide (1 ≤ I ∧ I ≤ 16) = false by simp; omega] at hmb
    go_enter Tryz.func17, Tryz.ntmps17
    go_wp2_with fail
    refine hmb.mono ?_
    rintro e w1 ⟨rfl, hw⟩
    have hw2 := hw.symm
    subst hw2
    clear hw hmb
    go_wp2_with fail
    go_ret2
    exact .no (by omega) rfl (Below.refl _ _)


end Go.Proofs.YtkacfpmninmjkaaGreat
