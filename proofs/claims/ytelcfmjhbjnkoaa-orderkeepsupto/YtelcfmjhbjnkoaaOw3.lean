/- Items checked, cleaned and compared by the program. -/
import Derived.Test.YtelcfmjhbjnkoaaOw2
import Derived.Test.YtelcfmjhbjnkoaaReg2
namespace Go.Proofs.Ytelcfmjhbjnkoaa
open Go.RowKit

attribute [local go_sem] st_float st_complex

/-- An item that lies in a block of its own. -/
def BoxI (w : World) (g : Nat) (x : It) : Prop := w.heap[g]? = some (.cells #[.int .i64 x.k, .bool x.b, .int .i64 x.n, .float .f64 x.f, .complex .f64 x.r x.i, .string x.t] 29 (0, 0))
theorem BoxI.lt {w : World} {g : Nat} {x : It} (h : BoxI w g x) : g < w.heap.size := (Array.getElem?_eq_some_iff.1 h).1
theorem BoxI.cells {w : World} {g : Nat} {x : It} (h : BoxI w g x) : w.cell? ⟨g, 0, none⟩ = some (.int .i64 x.k) ∧ w.cell? ⟨g, 1, none⟩ = some (.bool x.b) ∧ w.cell? ⟨g, 2, none⟩ = some (.int .i64 x.n) ∧
    w.cell? ⟨g, 3, none⟩ = some (.float .f64 x.f) ∧ w.cell? ⟨g, 4, none⟩ = some (.complex .f64 x.r x.i) ∧ w.cell? ⟨g, 5, none⟩ = some (.string x.t) :=
  ⟨by rw [cell_of_row _ _ _ _ _ _ h]; rfl, by rw [cell_of_row _ _ _ _ _ _ h]; rfl, by rw [cell_of_row _ _ _ _ _ _ h]; rfl, by rw [cell_of_row _ _ _ _ _ _ h]; rfl, by rw [cell_of_row _ _ _ _ _ _ h]; rfl, by rw [cell_of_row _ _ _ _ _ _ h]; rfl⟩
theorem BoxI.frozen {w : World} {g : Nat} {x : It} (h : BoxI w g x) (i : Nat) : w.frozen? ⟨g, i, none⟩ = false := frozen_of_row w g i _ _ h
theorem BoxI.below {w w' : World} {B g : Nat} {x : It} (h : BoxI w g x) (hb : Below B w w') (hg : g < B) : BoxI w' g x := by
  unfold BoxI; rw [hb.block g hg]; exact h
theorem BoxI.new (w : World) (x : It) : BoxI (w.alloc (.cells #[.int .i64 x.k, .bool x.b, .int .i64 x.n, .float .f64 x.f, .complex .f64 x.r x.i, .string x.t] 29)) w.heap.size x := heap_alloc_new w _
theorem BoxI.setF {w : World} {g : Nat} {x : It} (h : BoxI w g x) (f : Nat) : BoxI (w.setCell ⟨g, 3, none⟩ (.float .f64 f)) g { x with f := f } := by
  unfold BoxI; rw [heap_setCell_same w g 3 _ _ _ h]; rfl
theorem BoxI.setC {w : World} {g : Nat} {x : It} (h : BoxI w g x) (r i : Nat) : BoxI (w.setCell ⟨g, 4, none⟩ (.complex .f64 r i)) g { x with r := r, i := i } := by
  unfold BoxI; rw [heap_setCell_same w g 4 _ _ _ h]; rfl

set_option maxRecDepth 100000 in
set_option maxHeartbeats 400000 in
theorem compareNumbers_any (a b : Nat) (w : World) (ha : a < 18446744073709551616) (hb : b < 18446744073709551616) :
    Calls Try.prog 28 #[.float .f64 a, .float .f64 b] w fun e w' => e = .returned (.int .i64 (cmpF a b)) ∧ w' = w := by
  have hna := fun w => isNaN_any a w ha
  have hnb := fun w => isNaN_any b w hb
  have hcb := compareBools_any
  cases na : nanB a with
  | true =>
    rw [na] at hna
    cases nb : nanB b with
    | true =>
      rw [nb] at hnb
      have e : cmpF a b = 0 := by simp [cmpF, na, nb]
      rw [e]
      go_enter Try.func28, Try.ntmps28
      go_wp2_with (first | (go_at_call 46; (first | refine (hna _).mono ?_ | refine (hnb _).mono ?_); rintro e w' ⟨rfl, hq⟩; have hq2 := hq.symm; subst hq2; clear hq) | (go_at_call 26; refine (hcb _ _ _).mono ?_; rintro e w' ⟨rfl, hq⟩; have hq2 := hq.symm; subst hq2; clear hq))
      all_goals go_ret
      all_goals exact ⟨rfl, rfl⟩
    | false =>
      rw [nb] at hnb
      have e : cmpF a b = 1 := by simp [cmpF, na, nb]
      rw [e]
      go_enter Try.func28, Try.ntmps28
      go_wp2_with (first | (go_at_call 46; (first | refine (hna _).mono ?_ | refine (hnb _).mono ?_); rintro e w' ⟨rfl, hq⟩; have hq2 := hq.symm; subst hq2; clear hq) | (go_at_call 26; refine (hcb _ _ _).mono ?_; rintro e w' ⟨rfl, hq⟩; have hq2 := hq.symm; subst hq2; clear hq))
      all_goals go_ret
      all_goals exact ⟨rfl, rfl⟩
  | false =>
    rw [na] at hna
    cases nb : nanB b with
    | true =>
      rw [nb] at hnb
      have e : cmpF a b = -1 := by simp [cmpF, na, nb]
      rw [e]
      go_enter Try.func28, Try.ntmps28
      go_wp2_with (first | (go_at_call 46; (first | refine (hna _).mono ?_ | refine (hnb _).mono ?_); rintro e w' ⟨rfl, hq⟩; have hq2 := hq.symm; subst hq2; clear hq) | (go_at_call 26; refine (hcb _ _ _).mono ?_; rintro e w' ⟨rfl, hq⟩; have hq2 := hq.symm; subst hq2; clear hq))
      all_goals go_ret
      all_goals exact ⟨rfl, rfl⟩
    | false =>
      rw [nb] at hnb
      have hcf := fun w => cmpFlo a b w ha hb na nb
      have e : cmpF a b = cmpI (key a) (key b) := by simp [cmpF, na, nb]
      rw [e]
      generalize cmpI (key a) (key b) = r at *
      go_enter Try.func28, Try.ntmps28
      go_wp2_with (first | (go_at_call 46; (first | refine (hna _).mono ?_ | refine (hnb _).mono ?_); rintro e w' ⟨rfl, hq⟩; have hq2 := hq.symm; subst hq2; clear hq) | (go_at_call 47; refine (hcf _).mono ?_; rintro e w' ⟨rfl, hq⟩; have hq2 := hq.symm; subst hq2; clear hq))
      all_goals go_ret
      all_goals exact ⟨rfl, rfl⟩

set_option maxRecDepth 100000 in
set_option maxHeartbeats 400000 in
theorem or_any (a b : Int) (g : Nat) (w : World) (h0 : w.cell? ⟨g, 0, none⟩ = some (.int .i64 a)) (h1 : w.cell? ⟨g, 1, none⟩ = some (.int .i64 b)) :
    Calls Try.prog 29 #[.slice (some ⟨g, 0, none⟩) 2 2] w fun e w' => e = .returned (.int .i64 (orI a b)) ∧ w' = w := by
  obtain ⟨z, hz⟩ : ∃ z, z = orI a b := ⟨_, rfl⟩
  rw [← hz]
  have HZ := hide_it hz
  clear hz
  go_enter Try.func29, Try.ntmps29
  go_wp2_with fail
  go_loop [8] (fun i => ∃ k : Nat, k ≤ 2 ∧ i = .int .i64 (k : Int) ∧ (1 ≤ k → a = 0) ∧ (2 ≤ k → b = 0)) (fun i => 2 - (intOf i).toNat)
  case atStart => exact ⟨0, by omega, rfl, by omega, by omega⟩
  case round =>
    obtain ⟨k, hk, rfl, q1, q2⟩ := hrel
    match k, hk with
    | 0, _ =>
      by_cases ha : a = 0
      · subst ha
        clear q1 q2
        go_wp2
        go_round
        case rel => exact ⟨1, by omega, by go_num, by simp, by omega⟩
        case measure => simp [intOf]
      · have hd : (a == 0) = false := by simpa using ha
        clear q1 q2
        go_wp2
        go_ret
        exact ⟨by rw [HZ.out, orI_ne ha b]; rfl, rfl⟩
    | 1, _ =>
      have ha := q1 (by omega)
      subst ha
      clear q1 q2
      by_cases hb : b = 0
      · subst hb
        go_wp2
        go_round
        case rel => exact ⟨2, by omega, by go_num, by simp, by simp⟩
        case measure => simp [intOf]
      · have hd : (b == 0) = false := by simpa using hb
        go_wp2
        go_ret
        exact ⟨by rw [HZ.out, orI_nil b]; rfl, rfl⟩
    | 2, _ =>
      have ha := q1 (by omega)
      have hb := q2 (by omega)
      subst ha
      subst hb
      clear q1 q2
      go_wp2
      go_ret
      exact ⟨by rw [HZ.out, orI_nil]; rfl, rfl⟩

theorem BoxI.all {w : World} {g : Nat} {y : It} (h : BoxI w g y) (x : It) :
    BoxI ((((((w.setCell ⟨g, 0, none⟩ (.int .i64 x.k)).setCell ⟨g, 1, none⟩ (.bool x.b)).setCell ⟨g, 2, none⟩ (.int .i64 x.n)).setCell ⟨g, 3, none⟩ (.float .f64 x.f)).setCell ⟨g, 4, none⟩ (.complex .f64 x.r x.i)).setCell ⟨g, 5, none⟩ (.string x.t)) g x := by
  have h0 : (w.setCell ⟨g, 0, none⟩ (.int .i64 x.k)).heap[g]? = some (.cells #[.int .i64 x.k, .bool y.b, .int .i64 y.n, .float .f64 y.f, .complex .f64 y.r y.i, .string y.t] 29 (0, 0)) := heap_setCell_same _ g 0 _ _ _ h
  have h1 : ((w.setCell ⟨g, 0, none⟩ (.int .i64 x.k)).setCell ⟨g, 1, none⟩ (.bool x.b)).heap[g]? = some (.cells #[.int .i64 x.k, .bool x.b, .int .i64 y.n, .float .f64 y.f, .complex .f64 y.r y.i, .string y.t] 29 (0, 0)) := heap_setCell_same _ g 1 _ _ _ h0
  have h2 : (((w.setCell ⟨g, 0, none⟩ (.int .i64 x.k)).setCell ⟨g, 1, none⟩ (.bool x.b)).setCell ⟨g, 2, none⟩ (.int .i64 x.n)).heap[g]? = some (.cells #[.int .i64 x.k, .bool x.b, .int .i64 x.n, .float .f64 y.f, .complex .f64 y.r y.i, .string y.t] 29 (0, 0)) := heap_setCell_same _ g 2 _ _ _ h1
  have h3 : ((((w.setCell ⟨g, 0, none⟩ (.int .i64 x.k)).setCell ⟨g, 1, none⟩ (.bool x.b)).setCell ⟨g, 2, none⟩ (.int .i64 x.n)).setCell ⟨g, 3, none⟩ (.float .f64 x.f)).heap[g]? = some (.cells #[.int .i64 x.k, .bool x.b, .int .i64 x.n, .float .f64 x.f, .complex .f64 y.r y.i, .string y.t] 29 (0, 0)) := heap_setCell_same _ g 3 _ _ _ h2
  have h4 : (((((w.setCell ⟨g, 0, none⟩ (.int .i64 x.k)).setCell ⟨g, 1, none⟩ (.bool x.b)).setCell ⟨g, 2, none⟩ (.int .i64 x.n)).setCell ⟨g, 3, none⟩ (.float .f64 x.f)).setCell ⟨g, 4, none⟩ (.complex .f64 x.r x.i)).heap[g]? = some (.cells #[.int .i64 x.k, .bool x.b, .int .i64 x.n, .float .f64 x.f, .complex .f64 x.r x.i, .string y.t] 29 (0, 0)) := heap_setCell_same _ g 4 _ _ _ h3
  exact heap_setCell_same _ g 5 _ _ _ h4
theorem ret_item {fn : Func} {p : Tmp} (h : fn.results = #[.cell p 29]) (tmps : Array Value) (w : World) (g : Nat) (x : It) (hp : tmps.getD p undef = .pointer (some ⟨g, 0, none⟩)) (hb : BoxI w g x) :
    (results fn tmps).run Try.prog w = .ok (valI x) w :=
  results_cell_row h tmps w g 29 _ (0, 0) _ hp hb Try.underlying29 rfl (by kernel_rfl)

theorem below_all {w w1 : World} {B g : Nat} (h : Below B w w1) (hg : B ≤ g) (v0 v1 v2 v3 v4 v5 : Value) :
    Below B w ((((((w1.setCell ⟨g, 0, none⟩ v0).setCell ⟨g, 1, none⟩ v1).setCell ⟨g, 2, none⟩ v2).setCell ⟨g, 3, none⟩ v3).setCell ⟨g, 4, none⟩ v4).setCell ⟨g, 5, none⟩ v5) :=
  (((((h.setCell hg _).setCell hg _).setCell hg _).setCell hg _).setCell hg _).setCell hg _
theorem BoxI.far {w : World} {g p : Nat} {x : It} (h : BoxI w g x) (hp : g ≠ p) (j : Nat) (u : Value) : BoxI (w.setCell ⟨p, j, none⟩ u) g x := by
  unfold BoxI; rw [Below.heap_setCell _ _ _ _ hp]; exact h
theorem BoxI.drew {w : World} {g : Nat} {x : It} (h : BoxI w g x) : BoxI w.drew g x := h
/-- What Clean answers. -/
def cln (x : It) : It := if may x then clean x else x


end Go.Proofs.Ytelcfmjhbjnkoaa
