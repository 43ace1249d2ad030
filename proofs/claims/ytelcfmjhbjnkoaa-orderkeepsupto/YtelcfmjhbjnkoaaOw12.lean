/- An item taken off a text by the program's reader. -/
import Derived.Test.YtelcfmjhbjnkoaaOw11
namespace Go.Proofs.Ytelcfmjhbjnkoaa
open Go.RowKit

attribute [local go_sem] st_float st_complex

/-- Either way of a taking, told as one. -/
theorem Rdg.split {A : Type} {take : Option (A × List Nat)} {val : A → Value} {ok : Value → Prop} {g : Nat} {b : Bool} {w : World} {e : Ending} {w' : World} (P : A → Prop) (h : Rdg take val ok g b w e w') (hok : ∀ v, ok v → ∃ x, P x ∧ v = val x) (hP : ∀ x t, take = some (x, t) → P x) :
    ∃ x s' f, e = .returned (val x) ∧ RdO w' g s' f ∧ w.grownBy w' (some g) ∧ P x ∧ s'.size ≤ 140737488351232 ∧ Hid ((f = b ∧ take = some (x, strNat s')) ∨ (f = true ∧ take = none)) := by
  obtain ⟨hg, h⟩ := h
  cases take with
  | none =>
    obtain ⟨v, s', rfl, hv, hr, hl⟩ := h
    obtain ⟨x, hx, rfl⟩ := hok v hv
    exact ⟨x, s', true, rfl, hr, hg, hx, hl, .inr ⟨rfl, rfl⟩⟩
  | some p =>
    obtain ⟨x, t⟩ := p
    obtain ⟨rfl, s', hr, hs, hl⟩ := h
    exact ⟨x, s', b, rfl, hr, hg, hP x t rfl, hl, .inl ⟨rfl, by rw [hs]⟩⟩
theorem grown_all {w w1 : World} {g p : Nat} (h : w.grownBy w1 (some g)) (hp : w.heap.size ≤ p) (i : Nat) (v : Value) : w.grownBy (w1.setCell ⟨p, i, none⟩ v) (some g) := by
  refine ⟨h.os, h.tape, h.output, by rw [show (w1.setCell ⟨p, i, none⟩ v).heap.size = w1.heap.size by simp]; exact h.size, fun k hk hne => ?_⟩
  rw [Below.heap_setCell _ _ _ _ (show k ≠ p by omega)]
  exact h.block k hk hne
theorem RdO.far {w : World} {g p : Nat} {s : ByteArray} {b : Bool} (h : RdO w g s b) (hp : g ≠ p) (j : Nat) (u : Value) : RdO (w.setCell ⟨p, j, none⟩ u) g s b := by
  unfold RdO; rw [Below.heap_setCell _ _ _ _ hp]; exact h
/-- What item answers where something was wrong. -/
def okI (v : Value) : Prop := ∃ y, v = valI y
theorem item_end {w w1 : World} {g p : Nat} {q : ByteArray} {f : Bool} {y : It} {take : Option (It × List Nat)} (hg : w.grownBy w1 (some g)) (hr : RdO w1 g q f) (hql : q.size ≤ 140737488351232) (hgp : g < w.heap.size) (hp : w.heap.size ≤ p) (v0 v1 v2 v3 v4 v5 : Value)
    (hto : (f = false ∧ take = some (y, strNat q)) ∨ (f = true ∧ take = none)) :
    Rdg take valI okI g false w (.returned (valI y)) ((((((w1.setCell ⟨p, 0, none⟩ v0).setCell ⟨p, 1, none⟩ v1).setCell ⟨p, 2, none⟩ v2).setCell ⟨p, 3, none⟩ v3).setCell ⟨p, 4, none⟩ v4).setCell ⟨p, 5, none⟩ v5) := by
  have hr6 := (((((hr.far (show g ≠ p by omega) 0 v0).far (show g ≠ p by omega) 1 v1).far (show g ≠ p by omega) 2 v2).far (show g ≠ p by omega) 3 v3).far (show g ≠ p by omega) 4 v4).far (show g ≠ p by omega) 5 v5
  refine ⟨grown_all (grown_all (grown_all (grown_all (grown_all (grown_all hg hp _ _) hp _ _) hp _ _) hp _ _) hp _ _) hp _ _, ?_⟩
  rcases hto with ⟨rfl, rfl⟩ | ⟨rfl, rfl⟩
  · exact ⟨rfl, q, hr6, rfl, hql⟩
  · exact ⟨_, q, rfl, ⟨y, rfl⟩, hr6, hql⟩
theorem Rdg.later {A : Type} {take : Option (A × List Nat)} {val : A → Value} {ok : Value → Prop} {g : Nat} {b : Bool} {w : World} {e : Ending} {w' w2 : World} (h : Rdg take val ok g b w e w') (hb : Below w'.heap.size w' w2) : Rdg take val ok g b w e w2 := by
  refine ⟨grown_of h.1 (grown_below hb (some g)) (.inl rfl), ?_⟩
  have h2 := h.2
  cases take with
  | none =>
    obtain ⟨v, s', e1, hv, hr, hl⟩ := h2
    exact ⟨v, s', e1, hv, hr.below hb hr.lt, hl⟩
  | some p =>
    obtain ⟨x, t⟩ := p
    obtain ⟨e1, s', hr, hs, hl⟩ := h2
    exact ⟨e1, s', hr.below hb hr.lt, hs, hl⟩
theorem BoxI.set1 {w : World} {g : Nat} {x : It} (h : BoxI w g x) (b : Bool) : BoxI (w.setCell ⟨g, 1, none⟩ (.bool b)) g { x with b := b } := by
  unfold BoxI; rw [heap_setCell_same w g 1 _ _ _ h]; rfl
theorem BoxI.set2 {w : World} {g : Nat} {x : It} (h : BoxI w g x) (n : Int) : BoxI (w.setCell ⟨g, 2, none⟩ (.int .i64 n)) g { x with n := n } := by
  unfold BoxI; rw [heap_setCell_same w g 2 _ _ _ h]; rfl
theorem BoxI.set5 {w : World} {g : Nat} {x : It} (h : BoxI w g x) (t : ByteArray) : BoxI (w.setCell ⟨g, 5, none⟩ (.string t)) g { x with t := t } := by
  unfold BoxI; rw [heap_setCell_same w g 5 _ _ _ h]; rfl
theorem wrap_back {v : Nat} (h : v < 18446744073709551616) : IntKind.i64.wrap ((if v < 9223372036854775808 then v + 9223372036854775808 else v - 9223372036854775808 : Nat) : Int) = (v : Int) - 9223372036854775808 := by
  by_cases g : v < 9223372036854775808
  · rw [if_pos g]; simp [IntKind.wrap, IntKind.bits, IntKind.signed]; omega
  · rw [if_neg g]; simp [IntKind.wrap, IntKind.bits, IntKind.signed]; omega

set_option maxRecDepth 100000 in
set_option maxHeartbeats 1000000 in
theorem item_none (g : Nat) (s : ByteArray) (t : List Nat) (w : World) (hr : RdO w g s false) (hl : s.size ≤ 140737488351232) (hs : strNat s = 1 :: t) :
    Calls Try.prog 23 #[.pointer (some ⟨g, 0, none⟩)] w fun e w' => Rdg (takeB 1 t) valI okI g false w e w' := by
  have hlt := hr.lt
  have hba0 : Below w.heap.size w (w.alloc (.cells #[.int .i64 0, .bool false, .int .i64 0, .float .f64 0, .complex .f64 0 0, .string ByteArray.empty] 29)) := (Below.refl _ _).alloc (Nat.le_refl _) _
  have hr0 := hr.below hba0 hlt
  have B0 : BoxI (w.alloc (.cells #[.int .i64 0, .bool false, .int .i64 0, .float .f64 0, .complex .f64 0 0, .string ByteArray.empty] 29)) w.heap.size (it0 0) := heap_alloc_new w _
  have o1 := octet_cons g 1 t s false _ hr0 (by omega) hs
  have hst : s.size = t.length + 1 := by rw [← strNat_len, hs]; simp
  go_enter Try.func23, Try.ntmps23
  go_wp2_with fail
  refine o1.mono ?_
  rintro e w1 ⟨q, hq, rfl, hw1⟩
  have hr1 : RdO w1 g q false := by rw [hw1]; exact hr0.set0 q
  have B1 : BoxI w1 w.heap.size (it0 0) := by rw [hw1]; exact B0.far (by omega) 0 _
  have hg1 : w.grownBy w1 (some g) := by rw [hw1]; exact grown_cell (grown_below hba0 (some g)) _ _
  have hsz1 : w1.heap.size = w.heap.size + 1 := by rw [hw1]; simp
  have hqs : q.size = t.length := by rw [← strNat_len, hq]
  clear hw1 o1 hr hr0 B0 hba0 hs
  have hba : Below w1.heap.size w1 (w1.alloc (.cells #[.int .i64 1, .bool false, .int .i64 0, .float .f64 0, .complex .f64 0 0, .string ByteArray.empty] 29)) := (Below.refl _ _).alloc (Nat.le_refl _) _
  have hr2 := hr1.below hba hr1.lt
  have B2 := B1.below hba B1.lt
  have B3 : BoxI (w1.alloc (.cells #[.int .i64 1, .bool false, .int .i64 0, .float .f64 0, .complex .f64 0 0, .string ByteArray.empty] 29)) w1.heap.size (it0 1) := heap_alloc_new w1 _
  rw [hsz1] at B3
  have hg2 := grown_of hg1 (grown_below hba (some g)) (.inl rfl)
  obtain ⟨d0, d1, d2, d3, d4, d5⟩ := B1.cells
  have df0 := B1.frozen 0
  have df1 := B1.frozen 1
  have df2 := B1.frozen 2
  have df3 := B1.frozen 3
  have df4 := B1.frozen 4
  have df5 := B1.frozen 5
  simp only [it0] at d0 d1 d2 d3 d4 d5
  have HR := hide_it hr1
  have HB := hide_it B1
  clear hr1 B1 hr2 B2 B3 hba
  go_wp2_with fail
  refine bodyPost_ret (ret_item rfl _ _ w.heap.size (it0 1) rfl ((HB.out.all (it0 1)).below ((Below.refl _ _).alloc (Nat.le_refl _) _) (by simp; omega))) rfl ?_
  exact (item_end hg1 HR.out (by omega) hlt (Nat.le_refl _) _ _ _ _ _ _ (.inl ⟨rfl, by rw [hq]; rfl⟩)).later ((Below.refl _ _).alloc (Nat.le_refl _) _)

set_option maxRecDepth 100000 in
set_option maxHeartbeats 1000000 in
theorem item_bad (g : Nat) (K : Nat) (s : ByteArray) (t : List Nat) (w : World) (hr : RdO w g s false) (hl : s.size ≤ 140737488351232) (hs : strNat s = K :: t) (hK : K < 256) (h1 : K ≠ 1) (h2 : K ≠ 2) (h3 : K ≠ 3) (h4 : K ≠ 4) (h5 : K ≠ 5) (h6 : K ≠ 6) :
    Calls Try.prog 23 #[.pointer (some ⟨g, 0, none⟩)] w fun e w' => Rdg (takeB K t) valI okI g false w e w' := by
  have hlt := hr.lt
  have hba0 : Below w.heap.size w (w.alloc (.cells #[.int .i64 0, .bool false, .int .i64 0, .float .f64 0, .complex .f64 0 0, .string ByteArray.empty] 29)) := (Below.refl _ _).alloc (Nat.le_refl _) _
  have hr0 := hr.below hba0 hlt
  have B0 : BoxI (w.alloc (.cells #[.int .i64 0, .bool false, .int .i64 0, .float .f64 0, .complex .f64 0 0, .string ByteArray.empty] 29)) w.heap.size (it0 0) := heap_alloc_new w _
  have o1 := octet_cons g K t s false _ hr0 (by omega) hs
  have hst : s.size = t.length + 1 := by rw [← strNat_len, hs]; simp
  go_enter Try.func23, Try.ntmps23
  go_wp2_with fail
  refine o1.mono ?_
  rintro e w1 ⟨q, hq, rfl, hw1⟩
  have hr1 : RdO w1 g q false := by rw [hw1]; exact hr0.set0 q
  have B1 : BoxI w1 w.heap.size (it0 0) := by rw [hw1]; exact B0.far (by omega) 0 _
  have hg1 : w.grownBy w1 (some g) := by rw [hw1]; exact grown_cell (grown_below hba0 (some g)) _ _
  have hsz1 : w1.heap.size = w.heap.size + 1 := by rw [hw1]; simp
  have hqs : q.size = t.length := by rw [← strNat_len, hq]
  clear hw1 o1 hr hr0 B0 hba0 hs
  have hba : Below w1.heap.size w1 (w1.alloc (.cells #[.int .i64 (K : Int), .bool false, .int .i64 0, .float .f64 0, .complex .f64 0 0, .string ByteArray.empty] 29)) := (Below.refl _ _).alloc (Nat.le_refl _) _
  have hr2 := hr1.below hba hr1.lt
  have B2 := B1.below hba B1.lt
  have B3 : BoxI (w1.alloc (.cells #[.int .i64 (K : Int), .bool false, .int .i64 0, .float .f64 0, .complex .f64 0 0, .string ByteArray.empty] 29)) w1.heap.size (it0 (K : Int)) := heap_alloc_new w1 _
  rw [hsz1] at B3
  have hg2 := grown_of hg1 (grown_below hba (some g)) (.inl rfl)
  obtain ⟨d0, d1, d2, d3, d4, d5⟩ := B1.cells
  have df0 := B1.frozen 0
  have df1 := B1.frozen 1
  have df2 := B1.frozen 2
  have df3 := B1.frozen 3
  have df4 := B1.frozen 4
  have df5 := B1.frozen 5
  simp only [it0] at d0 d1 d2 d3 d4 d5
  obtain ⟨r0, r1, rf0, rf1⟩ := hr1.cells
  have k1 : ((K : Int) == 1) = false := by simp; omega
  have k2 : ((K : Int) == 2) = false := by simp; omega
  have k3 : ((K : Int) == 3) = false := by simp; omega
  have k4 : ((K : Int) == 4) = false := by simp; omega
  have k5 : ((K : Int) == 5) = false := by simp; omega
  have k6 : ((K : Int) == 6) = false := by simp; omega
  have hgw : ¬ g = w.heap.size + 1 := by omega
  have HR := hide_it (hr1.set1 true)
  have HB := hide_it (B1.far (show w.heap.size ≠ g by omega) 1 (.bool true))
  have HG := hide_it (grown_cell hg1 1 (.bool true))
  clear hr1 B1 hr2 B2 B3 hba
  go_wp2_with fail
  refine bodyPost_ret (ret_item rfl _ _ w.heap.size (it0 (K : Int)) rfl ((HB.out.all (it0 (K : Int))).below ((Below.refl _ _).alloc (Nat.le_refl _) _) (by simp; omega))) rfl ?_
  exact (item_end HG.out HR.out (by omega) hlt (Nat.le_refl _) _ _ _ _ _ _ (.inr ⟨rfl, by unfold takeB; rw [if_neg h1, if_neg h2, if_neg h3, if_neg h4, if_neg h5, if_neg h6]⟩)).later ((Below.refl _ _).alloc (Nat.le_refl _) _)

set_option maxRecDepth 100000 in
set_option maxHeartbeats 1000000 in
theorem item_bool (g : Nat) (s : ByteArray) (t : List Nat) (w : World) (hr : RdO w g s false) (hl : s.size ≤ 140737488351232) (hs : strNat s = 2 :: t) :
    Calls Try.prog 23 #[.pointer (some ⟨g, 0, none⟩)] w fun e w' => Rdg (takeB 2 t) valI okI g false w e w' := by
  have hlt := hr.lt
  have hba0 : Below w.heap.size w (w.alloc (.cells #[.int .i64 0, .bool false, .int .i64 0, .float .f64 0, .complex .f64 0 0, .string ByteArray.empty] 29)) := (Below.refl _ _).alloc (Nat.le_refl _) _
  have hr0 := hr.below hba0 hlt
  have B0 : BoxI (w.alloc (.cells #[.int .i64 0, .bool false, .int .i64 0, .float .f64 0, .complex .f64 0 0, .string ByteArray.empty] 29)) w.heap.size (it0 0) := heap_alloc_new w _
  have o1 := octet_cons g 2 t s false _ hr0 (by omega) hs
  have hst : s.size = t.length + 1 := by rw [← strNat_len, hs]; simp
  go_enter Try.func23, Try.ntmps23
  go_wp2_with fail
  refine o1.mono ?_
  rintro e w1 ⟨q, hq, rfl, hw1⟩
  have hr1 : RdO w1 g q false := by rw [hw1]; exact hr0.set0 q
  have B1 : BoxI w1 w.heap.size (it0 0) := by rw [hw1]; exact B0.far (by omega) 0 _
  have hg1 : w.grownBy w1 (some g) := by rw [hw1]; exact grown_cell (grown_below hba0 (some g)) _ _
  have hsz1 : w1.heap.size = w.heap.size + 1 := by rw [hw1]; simp
  have hqs : q.size = t.length := by rw [← strNat_len, hq]
  clear hw1 o1 hr hr0 B0 hba0 hs
  have hba : Below w1.heap.size w1 (w1.alloc (.cells #[.int .i64 2, .bool false, .int .i64 0, .float .f64 0, .complex .f64 0 0, .string ByteArray.empty] 29)) := (Below.refl _ _).alloc (Nat.le_refl _) _
  have hr2 := hr1.below hba hr1.lt
  have B2 := B1.below hba B1.lt
  have B3 : BoxI (w1.alloc (.cells #[.int .i64 2, .bool false, .int .i64 0, .float .f64 0, .complex .f64 0 0, .string ByteArray.empty] 29)) w1.heap.size (it0 2) := heap_alloc_new w1 _
  rw [hsz1] at B3
  have hg2 := grown_of hg1 (grown_below hba (some g)) (.inl rfl)
  have o2 := truth_any g q _ hr2 (by omega)
  clear hr1 B1 hg1
  go_wp2_with fail
  refine o2.mono ?_
  rintro e w3 h3
  obtain ⟨x, q3, f, rfl, hr3, hg3, hPx, hq3l, hto⟩ := h3.split (fun _ => True) (fun v hv => by obtain ⟨z, rfl⟩ := hv; exact ⟨z, trivial, rfl⟩) (fun _ _ _ => trivial)
  clear h3 o2
  have hgg := grown_then hg2 hg3
  have B2' := B2.grown hg3 (by simp; omega)
  have B3' := B3.grown hg3 (by simp; omega)
  have HR3 := hide_it hr3
  clear hr3 hr2 B2 B3 hba
  obtain ⟨c0, c1, c2, c3, c4, c5⟩ := B3'.cells
  have cf0 := B3'.frozen 0
  have cf1 := B3'.frozen 1
  have cf2 := B3'.frozen 2
  have cf3 := B3'.frozen 3
  have cf4 := B3'.frozen 4
  have cf5 := B3'.frozen 5
  obtain ⟨d0, d1, d2, d3, d4, d5⟩ := B2'.cells
  have df0 := B2'.frozen 0
  have df1 := B2'.frozen 1
  have df2 := B2'.frozen 2
  have df3 := B2'.frozen 3
  have df4 := B2'.frozen 4
  have df5 := B2'.frozen 5
  simp only [it0] at c0 c1 c2 c3 c4 c5 d0 d1 d2 d3 d4 d5
  have HB2 := hide_it (B2'.far (show w.heap.size ≠ w.heap.size + 1 by omega) 1 (.bool x))
  have HRF := hide_it (HR3.out.far (show g ≠ w.heap.size + 1 by omega) 1 (.bool x))
  have HGG := hide_it (grown_all hgg (show w.heap.size ≤ w.heap.size + 1 by omega) 1 (.bool x))
  clear B2' B3'
  go_wp2_with fail
  refine bodyPost_ret (ret_item rfl _ _ w.heap.size { it0 2 with b := x } rfl (HB2.out.all { it0 2 with b := x })) rfl ?_
  exact item_end HGG.out HRF.out (by omega) hlt (Nat.le_refl _) _ _ _ _ _ _ (by
    have := hto.out
    rw [hq] at this
    unfold takeTr at this
    unfold takeB
    rw [if_neg (by decide), if_pos rfl]
    cases t with
    | nil => rcases this with ⟨_, h⟩ | ⟨h, _⟩; cases h; exact .inr ⟨h, rfl⟩
    | cons z m =>
      simp only at this ⊢
      by_cases hz : z ≤ 1
      · rw [if_pos hz] at this ⊢
        rcases this with ⟨h, h2⟩ | ⟨_, h2⟩
        · cases h2; exact .inl ⟨h, rfl⟩
        · cases h2
      · rw [if_neg hz] at this ⊢
        rcases this with ⟨_, h2⟩ | ⟨h, _⟩
        · cases h2
        · exact .inr ⟨h, rfl⟩)

set_option maxRecDepth 100000 in
set_option maxHeartbeats 1000000 in
theorem item_int (g : Nat) (s : ByteArray) (t : List Nat) (w : World) (hr : RdO w g s false) (hl : s.size ≤ 140737488351232) (hs : strNat s = 3 :: t) :
    Calls Try.prog 23 #[.pointer (some ⟨g, 0, none⟩)] w fun e w' => Rdg (takeB 3 t) valI okI g false w e w' := by
  have hlt := hr.lt
  have hba0 : Below w.heap.size w (w.alloc (.cells #[.int .i64 0, .bool false, .int .i64 0, .float .f64 0, .complex .f64 0 0, .string ByteArray.empty] 29)) := (Below.refl _ _).alloc (Nat.le_refl _) _
  have hr0 := hr.below hba0 hlt
  have B0 : BoxI (w.alloc (.cells #[.int .i64 0, .bool false, .int .i64 0, .float .f64 0, .complex .f64 0 0, .string ByteArray.empty] 29)) w.heap.size (it0 0) := heap_alloc_new w _
  have o1 := octet_cons g 3 t s false _ hr0 (by omega) hs
  have hst : s.size = t.length + 1 := by rw [← strNat_len, hs]; simp
  go_enter Try.func23, Try.ntmps23
  go_wp2_with fail
  refine o1.mono ?_
  rintro e w1 ⟨q, hq, rfl, hw1⟩
  have hr1 : RdO w1 g q false := by rw [hw1]; exact hr0.set0 q
  have B1 : BoxI w1 w.heap.size (it0 0) := by rw [hw1]; exact B0.far (by omega) 0 _
  have hg1 : w.grownBy w1 (some g) := by rw [hw1]; exact grown_cell (grown_below hba0 (some g)) _ _
  have hsz1 : w1.heap.size = w.heap.size + 1 := by rw [hw1]; simp
  have hqs : q.size = t.length := by rw [← strNat_len, hq]
  clear hw1 o1 hr hr0 B0 hba0 hs
  have hba : Below w1.heap.size w1 (w1.alloc (.cells #[.int .i64 3, .bool false, .int .i64 0, .float .f64 0, .complex .f64 0 0, .string ByteArray.empty] 29)) := (Below.refl _ _).alloc (Nat.le_refl _) _
  have hr2 := hr1.below hba hr1.lt
  have B2 := B1.below hba B1.lt
  have B3 : BoxI (w1.alloc (.cells #[.int .i64 3, .bool false, .int .i64 0, .float .f64 0, .complex .f64 0 0, .string ByteArray.empty] 29)) w1.heap.size (it0 3) := heap_alloc_new w1 _
  rw [hsz1] at B3
  have hg2 := grown_of hg1 (grown_below hba (some g)) (.inl rfl)
  have o2 := word_any g q false _ hr2 (by omega)
  clear hr1 B1 hg1
  go_wp2_with fail
  refine o2.mono ?_
  rintro e w3 h3
  obtain ⟨x, q3, f, rfl, hr3, hg3, hPx, hq3l, hto⟩ := h3.split (fun x => x < 18446744073709551616) (fun v hv => ⟨0, by decide, hv⟩) (fun x m h => (takeW_form (strNat_all q) h).2.1)
  clear h3 o2
  have hgg := grown_then hg2 hg3
  have B2' := B2.grown hg3 (by simp; omega)
  have B3' := B3.grown hg3 (by simp; omega)
  have HR3 := hide_it hr3
  clear hr3 hr2 B2 B3 hba
  obtain ⟨c0, c1, c2, c3, c4, c5⟩ := B3'.cells
  have cf0 := B3'.frozen 0
  have cf1 := B3'.frozen 1
  have cf2 := B3'.frozen 2
  have cf3 := B3'.frozen 3
  have cf4 := B3'.frozen 4
  have cf5 := B3'.frozen 5
  obtain ⟨d0, d1, d2, d3, d4, d5⟩ := B2'.cells
  have df0 := B2'.frozen 0
  have df1 := B2'.frozen 1
  have df2 := B2'.frozen 2
  have df3 := B2'.frozen 3
  have df4 := B2'.frozen 4
  have df5 := B2'.frozen 5
  simp only [it0] at c0 c1 c2 c3 c4 c5 d0 d1 d2 d3 d4 d5
  have hxo := bx63 hPx
  have hwb := wrap_back hPx
  generalize (if x < 9223372036854775808 then x + 9223372036854775808 else x - 9223372036854775808) = xo at *
  obtain ⟨n, hn⟩ : ∃ n : Int, n = (x : Int) - 9223372036854775808 := ⟨_, rfl⟩
  rw [← hn] at hwb
  have HN := hide_it hn
  clear hn
  have HB2 := hide_it (B2'.far (show w.heap.size ≠ w.heap.size + 1 by omega) 2 (.int .i64 n))
  have HRF := hide_it (HR3.out.far (show g ≠ w.heap.size + 1 by omega) 2 (.int .i64 n))
  have HGG := hide_it (grown_all hgg (show w.heap.size ≤ w.heap.size + 1 by omega) 2 (.int .i64 n))
  clear B2' B3'
  go_wp2_with fail
  refine bodyPost_ret (ret_item rfl _ _ w.heap.size { it0 3 with n := n } rfl (HB2.out.all { it0 3 with n := n })) rfl ?_
  exact item_end HGG.out HRF.out (by omega) hlt (Nat.le_refl _) _ _ _ _ _ _ (by
    have := hto.out
    rw [hq] at this
    unfold takeB
    rw [if_neg (by decide), if_neg (by decide), if_pos rfl, HN.out]
    rcases this with ⟨h, h2⟩ | ⟨h, h2⟩
    · rw [h2]; exact .inl ⟨h, rfl⟩
    · rw [h2]; exact .inr ⟨h, rfl⟩)

set_option maxRecDepth 100000 in
set_option maxHeartbeats 1000000 in
theorem item_float (g : Nat) (s : ByteArray) (t : List Nat) (w : World) (hr : RdO w g s false) (hl : s.size ≤ 140737488351232) (hs : strNat s = 4 :: t) :
    Calls Try.prog 23 #[.pointer (some ⟨g, 0, none⟩)] w fun e w' => Rdg (takeB 4 t) valI okI g false w e w' := by
  have hlt := hr.lt
  have hba0 : Below w.heap.size w (w.alloc (.cells #[.int .i64 0, .bool false, .int .i64 0, .float .f64 0, .complex .f64 0 0, .string ByteArray.empty] 29)) := (Below.refl _ _).alloc (Nat.le_refl _) _
  have hr0 := hr.below hba0 hlt
  have B0 : BoxI (w.alloc (.cells #[.int .i64 0, .bool false, .int .i64 0, .float .f64 0, .complex .f64 0 0, .string ByteArray.empty] 29)) w.heap.size (it0 0) := heap_alloc_new w _
  have o1 := octet_cons g 4 t s false _ hr0 (by omega) hs
  have hst : s.size = t.length + 1 := by rw [← strNat_len, hs]; simp
  go_enter Try.func23, Try.ntmps23
  go_wp2_with fail
  refine o1.mono ?_
  rintro e w1 ⟨q, hq, rfl, hw1⟩
  have hr1 : RdO w1 g q false := by rw [hw1]; exact hr0.set0 q
  have B1 : BoxI w1 w.heap.size (it0 0) := by rw [hw1]; exact B0.far (by omega) 0 _
  have hg1 : w.grownBy w1 (some g) := by rw [hw1]; exact grown_cell (grown_below hba0 (some g)) _ _
  have hsz1 : w1.heap.size = w.heap.size + 1 := by rw [hw1]; simp
  have hqs : q.size = t.length := by rw [← strNat_len, hq]
  clear hw1 o1 hr hr0 B0 hba0 hs
  have hba : Below w1.heap.size w1 (w1.alloc (.cells #[.int .i64 4, .bool false, .int .i64 0, .float .f64 0, .complex .f64 0 0, .string ByteArray.empty] 29)) := (Below.refl _ _).alloc (Nat.le_refl _) _
  have hr2 := hr1.below hba hr1.lt
  have B2 := B1.below hba B1.lt
  have B3 : BoxI (w1.alloc (.cells #[.int .i64 4, .bool false, .int .i64 0, .float .f64 0, .complex .f64 0 0, .string ByteArray.empty] 29)) w1.heap.size (it0 4) := heap_alloc_new w1 _
  rw [hsz1] at B3
  have hg2 := grown_of hg1 (grown_below hba (some g)) (.inl rfl)
  have o2 := number_any g q _ false hr2 (by omega)
  clear hr1 B1 hg1
  go_wp2_with fail
  refine o2.mono ?_
  rintro e w3 h3
  obtain ⟨x, q3, f, rfl, hr3, hg3, hPx, hq3l, hto⟩ := h3.split (fun _ => True) (fun v hv => by obtain ⟨z, _, rfl⟩ := hv; exact ⟨z, trivial, rfl⟩) (fun _ _ _ => trivial)
  clear h3 o2
  have hgg := grown_then hg2 hg3
  have B2' := B2.grown hg3 (by simp; omega)
  have B3' := B3.grown hg3 (by simp; omega)
  have HR3 := hide_it hr3
  clear hr3 hr2 B2 B3 hba
  obtain ⟨c0, c1, c2, c3, c4, c5⟩ := B3'.cells
  have cf0 := B3'.frozen 0
  have cf1 := B3'.frozen 1
  have cf2 := B3'.frozen 2
  have cf3 := B3'.frozen 3
  have cf4 := B3'.frozen 4
  have cf5 := B3'.frozen 5
  obtain ⟨d0, d1, d2, d3, d4, d5⟩ := B2'.cells
  have df0 := B2'.frozen 0
  have df1 := B2'.frozen 1
  have df2 := B2'.frozen 2
  have df3 := B2'.frozen 3
  have df4 := B2'.frozen 4
  have df5 := B2'.frozen 5
  simp only [it0] at c0 c1 c2 c3 c4 c5 d0 d1 d2 d3 d4 d5
  have HB2 := hide_it (B2'.far (show w.heap.size ≠ w.heap.size + 1 by omega) 3 (.float .f64 x))
  have HRF := hide_it (HR3.out.far (show g ≠ w.heap.size + 1 by omega) 3 (.float .f64 x))
  have HGG := hide_it (grown_all hgg (show w.heap.size ≤ w.heap.size + 1 by omega) 3 (.float .f64 x))
  clear B2' B3'
  go_wp2_with fail
  refine bodyPost_ret (ret_item rfl _ _ w.heap.size { it0 4 with f := x } rfl (HB2.out.all { it0 4 with f := x })) rfl ?_
  exact item_end HGG.out HRF.out (by omega) hlt (Nat.le_refl _) _ _ _ _ _ _ (by
    have := hto.out
    rw [hq] at this
    unfold takeB
    rw [if_neg (by decide), if_neg (by decide), if_neg (by decide), if_pos rfl]
    rcases this with ⟨h, h2⟩ | ⟨h, h2⟩
    · rw [h2]; exact .inl ⟨h, rfl⟩
    · rw [h2]; exact .inr ⟨h, rfl⟩)

set_option maxRecDepth 100000 in
set_option maxHeartbeats 1000000 in
theorem item_text (g : Nat) (s : ByteArray) (t : List Nat) (w : World) (hr : RdO w g s false) (hl : s.size ≤ 140737488351232) (hs : strNat s = 6 :: t) :
    Calls Try.prog 23 #[.pointer (some ⟨g, 0, none⟩)] w fun e w' => Rdg (takeB 6 t) valI okI g false w e w' := by
  have hlt := hr.lt
  have hba0 : Below w.heap.size w (w.alloc (.cells #[.int .i64 0, .bool false, .int .i64 0, .float .f64 0, .complex .f64 0 0, .string ByteArray.empty] 29)) := (Below.refl _ _).alloc (Nat.le_refl _) _
  have hr0 := hr.below hba0 hlt
  have B0 : BoxI (w.alloc (.cells #[.int .i64 0, .bool false, .int .i64 0, .float .f64 0, .complex .f64 0 0, .string ByteArray.empty] 29)) w.heap.size (it0 0) := heap_alloc_new w _
  have o1 := octet_cons g 6 t s false _ hr0 (by omega) hs
  have hst : s.size = t.length + 1 := by rw [← strNat_len, hs]; simp
  go_enter Try.func23, Try.ntmps23
  go_wp2_with fail
  refine o1.mono ?_
  rintro e w1 ⟨q, hq, rfl, hw1⟩
  have hr1 : RdO w1 g q false := by rw [hw1]; exact hr0.set0 q
  have B1 : BoxI w1 w.heap.size (it0 0) := by rw [hw1]; exact B0.far (by omega) 0 _
  have hg1 : w.grownBy w1 (some g) := by rw [hw1]; exact grown_cell (grown_below hba0 (some g)) _ _
  have hsz1 : w1.heap.size = w.heap.size + 1 := by rw [hw1]; simp
  have hqs : q.size = t.length := by rw [← strNat_len, hq]
  clear hw1 o1 hr hr0 B0 hba0 hs
  have hba : Below w1.heap.size w1 (w1.alloc (.cells #[.int .i64 6, .bool false, .int .i64 0, .float .f64 0, .complex .f64 0 0, .string ByteArray.empty] 29)) := (Below.refl _ _).alloc (Nat.le_refl _) _
  have hr2 := hr1.below hba hr1.lt
  have B2 := B1.below hba B1.lt
  have B3 : BoxI (w1.alloc (.cells #[.int .i64 6, .bool false, .int .i64 0, .float .f64 0, .complex .f64 0 0, .string ByteArray.empty] 29)) w1.heap.size (it0 6) := heap_alloc_new w1 _
  rw [hsz1] at B3
  have hg2 := grown_of hg1 (grown_below hba (some g)) (.inl rfl)
  have o2 := text_any g q _ hr2 (by omega)
  clear hr1 B1 hg1
  go_wp2_with fail
  refine o2.mono ?_
  rintro e w3 h3
  obtain ⟨x, q3, f, rfl, hr3, hg3, hPx, hq3l, hto⟩ := h3.split (fun _ => True) (fun v hv => by obtain ⟨z, rfl⟩ := hv; exact ⟨strNat z, trivial, by rw [strOf_strNat]⟩) (fun _ _ _ => trivial)
  clear h3 o2
  have hgg := grown_then hg2 hg3
  have B2' := B2.grown hg3 (by simp; omega)
  have B3' := B3.grown hg3 (by simp; omega)
  have HR3 := hide_it hr3
  clear hr3 hr2 B2 B3 hba
  obtain ⟨c0, c1, c2, c3, c4, c5⟩ := B3'.cells
  have cf0 := B3'.frozen 0
  have cf1 := B3'.frozen 1
  have cf2 := B3'.frozen 2
  have cf3 := B3'.frozen 3
  have cf4 := B3'.frozen 4
  have cf5 := B3'.frozen 5
  obtain ⟨d0, d1, d2, d3, d4, d5⟩ := B2'.cells
  have df0 := B2'.frozen 0
  have df1 := B2'.frozen 1
  have df2 := B2'.frozen 2
  have df3 := B2'.frozen 3
  have df4 := B2'.frozen 4
  have df5 := B2'.frozen 5
  simp only [it0] at c0 c1 c2 c3 c4 c5 d0 d1 d2 d3 d4 d5
  have HB2 := hide_it (B2'.far (show w.heap.size ≠ w.heap.size + 1 by omega) 5 (.string (strOf x)))
  have HRF := hide_it (HR3.out.far (show g ≠ w.heap.size + 1 by omega) 5 (.string (strOf x)))
  have HGG := hide_it (grown_all hgg (show w.heap.size ≤ w.heap.size + 1 by omega) 5 (.string (strOf x)))
  clear B2' B3'
  go_wp2_with fail
  refine bodyPost_ret (ret_item rfl _ _ w.heap.size { it0 6 with t := strOf x } rfl (HB2.out.all { it0 6 with t := strOf x })) rfl ?_
  exact item_end HGG.out HRF.out (by omega) hlt (Nat.le_refl _) _ _ _ _ _ _ (by
    have := hto.out
    rw [hq] at this
    unfold takeB
    rw [if_neg (by decide), if_neg (by decide), if_neg (by decide), if_neg (by decide), if_neg (by decide), if_pos rfl]
    rcases this with ⟨h, h2⟩ | ⟨h, h2⟩
    · rw [h2]; exact .inl ⟨h, rfl⟩
    · rw [h2]; exact .inr ⟨h, rfl⟩)

set_option maxRecDepth 100000 in
set_option maxHeartbeats 1000000 in
theorem item_complex (g : Nat) (s : ByteArray) (t : List Nat) (w : World) (hr : RdO w g s false) (hl : s.size ≤ 140737488351232) (hs : strNat s = 5 :: t) :
    Calls Try.prog 23 #[.pointer (some ⟨g, 0, none⟩)] w fun e w' => Rdg (takeB 5 t) valI okI g false w e w' := by
  have hlt := hr.lt
  have hba0 : Below w.heap.size w (w.alloc (.cells #[.int .i64 0, .bool false, .int .i64 0, .float .f64 0, .complex .f64 0 0, .string ByteArray.empty] 29)) := (Below.refl _ _).alloc (Nat.le_refl _) _
  have hr0 := hr.below hba0 hlt
  have B0 : BoxI (w.alloc (.cells #[.int .i64 0, .bool false, .int .i64 0, .float .f64 0, .complex .f64 0 0, .string ByteArray.empty] 29)) w.heap.size (it0 0) := heap_alloc_new w _
  have o1 := octet_cons g 5 t s false _ hr0 (by omega) hs
  have hst : s.size = t.length + 1 := by rw [← strNat_len, hs]; simp
  go_enter Try.func23, Try.ntmps23
  go_wp2_with fail
  refine o1.mono ?_
  rintro e w1 ⟨q, hq, rfl, hw1⟩
  have hr1 : RdO w1 g q false := by rw [hw1]; exact hr0.set0 q
  have B1 : BoxI w1 w.heap.size (it0 0) := by rw [hw1]; exact B0.far (by omega) 0 _
  have hg1 : w.grownBy w1 (some g) := by rw [hw1]; exact grown_cell (grown_below hba0 (some g)) _ _
  have hsz1 : w1.heap.size = w.heap.size + 1 := by rw [hw1]; simp
  have hqs : q.size = t.length := by rw [← strNat_len, hq]
  clear hw1 o1 hr hr0 B0 hba0 hs
  have hba : Below w1.heap.size w1 (w1.alloc (.cells #[.int .i64 5, .bool false, .int .i64 0, .float .f64 0, .complex .f64 0 0, .string ByteArray.empty] 29)) := (Below.refl _ _).alloc (Nat.le_refl _) _
  have hr2 := hr1.below hba hr1.lt
  have B2 := B1.below hba B1.lt
  have B3 : BoxI (w1.alloc (.cells #[.int .i64 5, .bool false, .int .i64 0, .float .f64 0, .complex .f64 0 0, .string ByteArray.empty] 29)) w1.heap.size (it0 5) := heap_alloc_new w1 _
  rw [hsz1] at B3
  have hg2 := grown_of hg1 (grown_below hba (some g)) (.inl rfl)
  have o2 := number_any g q _ false hr2 (by omega)
  clear hr1 B1 hg1
  go_wp2_with fail
  refine o2.mono ?_
  rintro e w3 h3
  obtain ⟨x, q3, f, rfl, hr3, hg3, -, hq3l, hto⟩ := h3.split (fun _ => True) (fun v hv => by obtain ⟨z, _, rfl⟩ := hv; exact ⟨z, trivial, rfl⟩) (fun _ _ _ => trivial)
  clear h3 o2
  have hgg := grown_then hg2 hg3
  have B2' := B2.grown hg3 (by simp; omega)
  have B3' := B3.grown hg3 (by simp; omega)
  have o3 := number_any g q3 w3 f hr3 hq3l
  clear hr3 hr2 B2 B3 hba hg2 hg3
  go_wp2_with fail
  refine o3.mono ?_
  rintro e w4 h4
  obtain ⟨x2, q4, f2, rfl, hr4, hg4, -, hq4l, hto2⟩ := h4.split (fun _ => True) (fun v hv => by obtain ⟨z, _, rfl⟩ := hv; exact ⟨z, trivial, rfl⟩) (fun _ _ _ => trivial)
  clear h4 o3
  have hgg2 := grown_then hgg hg4
  have B2q := B2'.grown hg4 (by simp; omega)
  have B3q := B3'.grown hg4 (by simp; omega)
  have HR4 := hide_it hr4
  clear hr4 B2' B3' hgg hg4
  obtain ⟨c0, c1, c2, c3, c4, c5⟩ := B3q.cells
  have cf0 := B3q.frozen 0
  have cf1 := B3q.frozen 1
  have cf2 := B3q.frozen 2
  have cf3 := B3q.frozen 3
  have cf4 := B3q.frozen 4
  have cf5 := B3q.frozen 5
  obtain ⟨d0, d1, d2, d3, d4, d5⟩ := B2q.cells
  have df0 := B2q.frozen 0
  have df1 := B2q.frozen 1
  have df2 := B2q.frozen 2
  have df3 := B2q.frozen 3
  have df4 := B2q.frozen 4
  have df5 := B2q.frozen 5
  simp only [it0] at c0 c1 c2 c3 c4 c5 d0 d1 d2 d3 d4 d5
  have HB2 := hide_it (B2q.far (show w.heap.size ≠ w.heap.size + 1 by omega) 4 (.complex .f64 x x2))
  have HRF := hide_it (HR4.out.far (show g ≠ w.heap.size + 1 by omega) 4 (.complex .f64 x x2))
  have HGG := hide_it (grown_all hgg2 (show w.heap.size ≤ w.heap.size + 1 by omega) 4 (.complex .f64 x x2))
  clear B2q B3q
  go_wp2_with fail
  refine bodyPost_ret (ret_item rfl _ _ w.heap.size { it0 5 with r := x, i := x2 } rfl (HB2.out.all { it0 5 with r := x, i := x2 })) rfl ?_
  exact item_end HGG.out HRF.out (by omega) hlt (Nat.le_refl _) _ _ _ _ _ _ (by
    have h1 := hto.out
    have h2 := hto2.out
    rw [hq] at h1
    unfold takeB
    rw [if_neg (by decide), if_neg (by decide), if_neg (by decide), if_neg (by decide), if_pos rfl]
    rcases h1 with ⟨e1, e2⟩ | ⟨e1, e2⟩
    · rw [e2]
      simp only
      rcases h2 with ⟨e3, e4⟩ | ⟨e3, e4⟩
      · rw [e4]; exact .inl ⟨e3.trans e1, rfl⟩
      · rw [e4]; exact .inr ⟨e3, rfl⟩
    · rw [e2]
      refine .inr ⟨?_, rfl⟩
      rcases h2 with ⟨e3, _⟩ | ⟨e3, _⟩
      · exact e3.trans e1
      · exact e3)

theorem item_any (g : Nat) (s : ByteArray) (w : World) (hr : RdO w g s false) (hl : s.size ≤ 140737488351232) (hs : 0 < s.size) :
    Calls Try.prog 23 #[.pointer (some ⟨g, 0, none⟩)] w fun e w' => Rdg (takeI (strNat s)) valI okI g false w e w' := by
  cases h : strNat s with
  | nil =>
    have := strNat_len s
    rw [h] at this
    simp at this
    omega
  | cons K t =>
    have hK : K < 256 := strNat_all s K (by rw [h]; exact List.mem_cons_self)
    show Calls Try.prog 23 #[.pointer (some ⟨g, 0, none⟩)] w fun e w' => Rdg (takeB K t) valI okI g false w e w'
    by_cases h1 : K = 1
    · subst h1; exact item_none g s t w hr hl h
    by_cases h2 : K = 2
    · subst h2; exact item_bool g s t w hr hl h
    by_cases h3 : K = 3
    · subst h3; exact item_int g s t w hr hl h
    by_cases h4 : K = 4
    · subst h4; exact item_float g s t w hr hl h
    by_cases h5 : K = 5
    · subst h5; exact item_complex g s t w hr hl h
    by_cases h6 : K = 6
    · subst h6; exact item_text g s t w hr hl h
    · exact item_bad g K s t w hr hl h hK h1 h2 h3 h4 h5 h6

end Go.Proofs.Ytelcfmjhbjnkoaa
