/- The document's reader: End, Open; what one call answers. -/
import Derived.Test.YtfhinodieghklaaRef4
namespace Go.Proofs.Ytfhinodieghklaa
open Go.RowKit

set_option maxRecDepth 100000 in
set_option maxHeartbeats 400000 in
theorem rend_any (a : Option Addr) (B : List Nat) (cap at_ : Nat) (s : List Nat × Nat) (w : World) (h : RefIs w a B cap at_ s) :
    Calls Try.prog 30 #[refV a B.length cap at_ s.2] w fun e w' => e = .returned (.int .i64 ((endOf s.1 s.2 : Nat) : Int)) ∧ Below w.heap.size w w' := by
  have hl := h.le
  have hsz := h.size
  obtain ⟨bs, f⟩ := s
  have hbl : bs.length = B.length - at_ := by have e : bs = _ := h.left; rw [e]; simp
  have hbb : ∀ x y : Obj, Below w.heap.size w ((w.alloc x).alloc y) := fun x y => ((Below.refl _ _).alloc (Nat.le_refl _) x).alloc (by simp) y
  have hb1 : ∀ x : Obj, Below w.heap.size w (w.alloc x) := fun x => (Below.refl _ _).alloc (Nat.le_refl _) x
  clear h
  unfold refV
  by_cases hf : f = 0
  · subst hf
    by_cases hp : 0 < bs.length
    · have HE : Hid (endOf bs 0 = 22) := by unfold Hid endOf; rw [if_neg (by simp), if_pos hp]
      have hd : decide ((0 : Int) < (B.length : Int) - (at_ : Int)) = true := by simp; omega
      go_enter Try.func30, Try.ntmps30
      go_wp2
      go_ret
      rw [HE.out]
      exact ⟨rfl, hbb _ _⟩
    · have HE : Hid (endOf bs 0 = 0) := by unfold Hid endOf; rw [if_neg (by simp), if_neg hp]
      have hd : decide ((0 : Int) < (B.length : Int) - (at_ : Int)) = false := by simp; omega
      go_enter Try.func30, Try.ntmps30
      go_wp2
      go_ret
      rw [HE.out]
      exact ⟨rfl, hbb _ _⟩
  · have HE : Hid (endOf bs f = f) := by unfold Hid endOf; rw [if_pos hf]
    have hd : ((f : Int) == 0) = false := by simp; omega
    go_enter Try.func30, Try.ntmps30
    go_wp2
    go_ret
    rw [HE.out]
    exact ⟨rfl, hb1 _⟩

set_option maxRecDepth 100000 in
set_option maxHeartbeats 400000 in
theorem ropen_any (a : Option Addr) (cap : Nat) (zs : List Nat) (w : World) (hr : RowB w a zs) (h8 : All8 zs) (hl : zs.length ≤ 140737488355328) (hnil : a = none → zs.length = 0 ∧ cap = 0) :
    Calls Try.prog 21 #[.slice a zs.length cap] w fun e w' => ∃ a' c', e = .returned (refV a' zs.length c' 0 0) ∧ RefIs w' a' zs c' 0 (zs, 0) ∧ Below w.heap.size w w' := by
  have hb0 : Below w.heap.size w ((w.alloc (.cells #[.slice none 0 0, .int .i64 0, .int .i64 0] 42)).alloc (.cells #[] 5)) := ((Below.refl _ _).alloc (Nat.le_refl _) _).alloc (by simp) _
  have hr0 := hr.below hb0
  have hoe := own_empty (w.alloc (.cells #[.slice none 0 0, .int .i64 0, .int .i64 0] 42))
  simp only [World.size_alloc] at hoe
  have hk1 : ((w.alloc (.cells #[.slice none 0 0, .int .i64 0, .int .i64 0] 42)).alloc (.cells #[] 5)).heap[w.heap.size]? = some (.cells #[.slice none 0 0, .int .i64 0, .int .i64 0] 42 (0, 0)) := by
    rw [Below.heap_alloc _ _ _ (by simp)]; exact heap_alloc_new w _
  clear hr
  go_enter Try.func21, Try.ntmps21
  go_wp2_with (at_builtin; refine wpList_append_row _ rfl _ _ rfl (w.heap.size + 1) _ [] rfl hoe a cap zs rfl hr0 hnil (by simp; omega) (by simp) ?_; intro v1 w1 hown1 hg1 hat1; rw [List.nil_append] at hown1; obtain ⟨a7, c7, hv7, _, h71, h72, hn7⟩ := hown1.row; subst hv7; have hg2 : ((w.alloc (.cells #[.slice none 0 0, .int .i64 0, .int .i64 0] 42)).alloc (.cells #[] 5)).grownBy w1 (some (w.heap.size + 1)) := hg1; have j1 : w1.heap[w.heap.size]? = _ := (hg2.block _ (by simp; omega) (by simp)).trans hk1; obtain ⟨c0, c1, c2⟩ := three_cells j1; obtain ⟨z0, z1, z2⟩ := three_soft j1; have HJ1 := hide_it j1; have HOWN := hide_it hown1; have HG := hide_it hg2; clear hown1 hg1 hg2 hat1 j1)
  have g5 := set3 HJ1.out (.slice a7 zs.length c7) (.int .i64 0) (.int .i64 0)
  obtain ⟨v0, v1, v2⟩ := three_cells g5
  refine bodyPost_ret (v := .agg #[.slice a7 zs.length c7, .int .i64 0, .int .i64 0]) (by simp [results, Try.results21, go_sem, v0, v1, v2]) rfl ?_
  have bw1 : Below w.heap.size w w1 := hb0.grown HG.out hb0.size (fun j e => by cases e; omega)
  have b5 := below3 bw1 (Nat.le_refl w.heap.size) (.slice a7 zs.length c7) (.int .i64 0) (.int .i64 0)
  have ho := ((HOWN.out.set_old (p := w.heap.size) (by omega) 0 (.slice a7 zs.length c7)).set_old (p := w.heap.size) (by omega) 1 (.int .i64 0)).set_old (p := w.heap.size) (by omega) 2 (.int .i64 0)
  obtain ⟨a8, c8, e8, hr8, _, _, _⟩ := ho.row
  cases e8
  exact ⟨a7, c7, rfl, ⟨hr8, h8, hl, h71, h72, hn7, Nat.zero_le _, rfl, by omega⟩, b5⟩
end Go.Proofs.Ytfhinodieghklaa
