/- A set's calls: New, Get, Weight, Len; a write. -/
import Derived.Test.YtbafjkanbbcbgaaXw2
namespace Go.Proofs.Ytbafjkanbbcbgaa
open Go.RowKit Go.Maps

theorem upto_step {F F1 : Nat → Prop} {w w1 w' : World} (h1 : ∀ j, F1 j → upto F w w1 j) (hz : w.heap.size ≤ w1.heap.size) (hz' : w1.heap.size ≤ w'.heap.size) : ∀ j, upto F1 w1 w' j → upto F w w' j := fun j hj => by
  rcases hj with hj | hj
  · rcases h1 j hj with h | h
    · exact .inl h
    · exact .inr ⟨h.1, Nat.lt_of_lt_of_le h.2 hz'⟩
  · exact .inr ⟨Nat.le_trans hz hj.1, hj.2⟩
theorem upto_in {F : Nat → Prop} {w w' : World} (h : ∀ j, F j → j < w.heap.size) (hz : w.heap.size ≤ w'.heap.size) : ∀ j, upto F w w' j → j < w'.heap.size := fun j hj => by
  rcases hj with hj | hj
  · exact Nat.lt_of_lt_of_le (h j hj) hz
  · exact hj.2
theorem chg_step {F F1 : Nat → Prop} {w w1 w' : World} (h : Chg F w w1) (k : Chg F1 w1 w') (h1 : ∀ j, F1 j → upto F w w1 j) : Chg F w w' := h.trans k fun j hj hF => by
  rcases h1 j hF with h | h
  · exact h
  · omega

/-- A version whose bytes are elsewhere. -/
def movX (x : Vn) (a : Option Addr) (c : Nat) : Vn := ⟨x.k, x.n, a, x.z, c, x.d⟩
set_option maxRecDepth 100000 in
set_option maxHeartbeats 400000 in
theorem anew_any (x : Vn) (w : World) (hr : RowB w x.a x.z) (hl : x.z.length ≤ 140737488355328) (hnil : x.a = none → x.z.length = 0 ∧ x.c = 0) :
    Calls Try.prog 34 #[verV x] w fun e w' => (∃ a c, e = .returned (verV (movX x a c)) ∧ OwnB w' w.heap.size (.slice a x.z.length c) x.z) ∧ Below w.heap.size w w' := by
  obtain ⟨k, n, a, z, c, d⟩ := x
  unfold verV movX
  simp only at hr hl hnil ⊢
  obtain ⟨W, hW⟩ : ∃ W, W = (w.alloc (.cells #[.string k, .int .i64 n, .slice a z.length c, .bool d] 41)).alloc (.cells #[.string ⟨#[]⟩, .int .i64 0, .slice none 0 0, .bool false] 41) := ⟨_, rfl⟩
  have hb : Below w.heap.size w W := by rw [hW]; exact ((Below.refl _ _).alloc (Nat.le_refl _) _).alloc (by simp) _
  have hzW : W.heap.size = w.heap.size + 2 := by rw [hW]; simp
  have k0 : W.heap[w.heap.size]? = some (.cells #[.string k, .int .i64 n, .slice a z.length c, .bool d] 41 (0, 0)) := by rw [hW, Below.heap_alloc _ _ _ (by simp)]; exact heap_alloc_new w _
  have k1 : W.heap[w.heap.size + 1]? = some (.cells #[.string ⟨#[]⟩, .int .i64 0, .slice none 0 0, .bool false] 41 (0, 0)) := by
    have := heap_alloc_new (w.alloc (.cells #[.string k, .int .i64 n, .slice a z.length c, .bool d] 41)) (.cells #[.string ⟨#[]⟩, .int .i64 0, .slice none 0 0, .bool false] 41)
    rw [hW]; simpa using this
  have d2 := cell_of_row _ _ 2 _ _ _ k0
  have hcl := bclone_any a c z W (hr.below hb) hl hnil
  go_enter Try.func34, Try.ntmps34
  go_wp2_with fail
  rw [← hW]
  clear hW
  go_wp2_with fail
  refine hcl.mono ?_
  rintro e w1 ⟨⟨v, rfl, hv⟩, hb1⟩
  obtain ⟨a9, c9, rfl, _⟩ := hv.row
  have q0 := (hb1.block _ (by omega)).trans k0
  have q1 := (hb1.block _ (by omega)).trans k1
  have hz1 := hb1.size
  have f0 := fun j => frozen_of_row w1 _ j _ _ q0
  have f1 := fun j => frozen_of_row w1 _ j _ _ q1
  have e0 := cell_of_row _ _ 0 _ _ _ q0
  have e1 := cell_of_row _ _ 1 _ _ _ q0
  have e2 := cell_of_row _ _ 2 _ _ _ q0
  have e3 := cell_of_row _ _ 3 _ _ _ q0
  have g0 := cell_of_row _ _ 0 _ _ _ q1
  have g1 := cell_of_row _ _ 1 _ _ _ q1
  have g2 := cell_of_row _ _ 2 _ _ _ q1
  have g3 := cell_of_row _ _ 3 _ _ _ q1
  have HV : Hid (∀ w5, (∀ j, w.heap.size + 2 ≤ j → w5.heap[j]? = w1.heap[j]?) → OwnB w5 w.heap.size (.slice a9 z.length c9) z) := hide_it fun w5 h5 => (hv.hold fun j hj => h5 j (by have := hv.ge hj; omega)).mono (by omega)
  have HB := hide_it (hb.trans (hb1.mono hb.size))
  clear hcl hv hb1 q0 q1 k0 k1 hb d2
  go_wp2_with fail
  refine bodyPost_ret (v := .agg #[.string k, .int .i64 n, .slice a9 z.length c9, .bool d]) (by simp [results, Try.results34, g0, g1, g2, g3, go_sem]) rfl ⟨⟨a9, c9, rfl, HV.out _ fun j hj => ?_⟩, ?_⟩
  · rw [Below.heap_setCell _ _ _ _ (by show j ≠ w.heap.size + 1; omega), Below.heap_setCell _ _ _ _ (by show j ≠ w.heap.size + 1; omega), Below.heap_setCell _ _ _ _ (by show j ≠ w.heap.size + 1; omega), Below.heap_setCell _ _ _ _ (by show j ≠ w.heap.size + 1; omega), Below.heap_setCell _ _ _ _ (by show j ≠ w.heap.size; omega)]
  · exact ((((HB.out.setCell (p := ⟨w.heap.size, 2, none⟩) (Nat.le_refl _) _).setCell (p := ⟨w.heap.size + 1, 0, none⟩) (by simp) _).setCell (p := ⟨w.heap.size + 1, 1, none⟩) (by simp) _).setCell (p := ⟨w.heap.size + 1, 2, none⟩) (by simp) _).setCell (p := ⟨w.heap.size + 1, 3, none⟩) (by simp) _

def wgt (x : Vn) : Int := (x.k.size : Int) + (x.z.length : Int)
set_option maxRecDepth 100000 in
set_option maxHeartbeats 400000 in
theorem weigh_any (x : Vn) (w : World) (hk : x.k.size ≤ 140737488355328) (hl : x.z.length ≤ 140737488355328) :
    Calls Try.prog 38 #[verV x] w fun e w' => e = .returned (.int .i64 (wgt x)) ∧ Below w.heap.size w w' := by
  obtain ⟨k, n, a, z, c, d⟩ := x
  unfold verV wgt
  simp only at hk hl ⊢
  have hwr : IntKind.i64.wrap ((k.size : Int) + (z.length : Int)) = (k.size : Int) + (z.length : Int) := i64_in (by omega) (by omega)
  clear hk hl
  go_enter Try.func38, Try.ntmps38
  go_wp2
  go_ret
  exact ⟨by first | rfl | rw [hwr], (Below.refl _ _).alloc (Nat.le_refl _) _⟩

/-! ### of no set -/
theorem all_none (w : World) : Calls Try.prog 33 #[.pointer none] w fun e w' => e = .returned (.map none) ∧ w' = w := by
  go_enter Try.func33, Try.ntmps33
  go_wp2
  go_ret
  exact ⟨rfl, rfl⟩

set_option maxRecDepth 100000 in
theorem new_any (w : World) : Calls Try.prog 10 #[] w fun e w' => e = .returned (.pointer (some ⟨w.heap.size, 0, none⟩)) ∧ w' = w.alloc (.cells #[.map none] 32) := by
  go_enter Try.func10, Try.ntmps10
  go_wp2
  go_ret
  exact ⟨rfl, rfl⟩
theorem wst_new (w : World) : Wst (w.alloc (.cells #[.map none] 32)) (fun j => j = w.heap.size) w.heap.size none [] :=
  ⟨heap_alloc_new w _, fun _ => rfl, (fun b e => by cases e), (fun e h => by cases h), List.Pairwise.nil, ⟨by simp [saysV], (fun e h => by cases h), (fun e h => by cases h), (fun e h => by cases h)⟩, rfl, fun j hj => by subst hj; simp⟩

section
variable {w w' : World} {F : Nat → Prop} {s : Nat} {mb : Option Nat} {M : List Vn}
set_option maxRecDepth 100000 in
theorem all_any (h : Wst w F s mb M) : Calls Try.prog 33 #[.pointer (some ⟨s, 0, none⟩)] w fun e w' => e = .returned (.map mb) ∧ w' = w := by
  obtain ⟨c0, _⟩ := h.cell
  clear h
  go_enter Try.func33, Try.ntmps33
  go_wp2
  go_ret
  exact ⟨rfl, rfl⟩

theorem Wst.kz (h : Wst w F s mb M) {e : Vn} (he : e ∈ M) : 1 ≤ e.k.size ∧ e.k.size ≤ 255 ∧ e.z.length ≤ 4096 ∧ e.n = 0 := by
  have hm : (ky e, verOf e) ∈ saysV M := List.mem_map.2 ⟨e, he, rfl⟩
  have h1 := h.fine.kl _ hm
  have h2 := h.fine.vl _ hm
  have h3 := h.fine.n0 _ hm
  simp only [ky, Array.length_toList] at h1
  exact ⟨h1.1, h1.2, h2, h3⟩

set_option maxRecDepth 100000 in
theorem len_any (h : Wst w F s mb M) : Calls Try.prog 20 #[.pointer (some ⟨s, 0, none⟩)] w fun e w' => e = .returned (.int .i64 (M.length : Int)) ∧ w' = w := by
  have ha := all_any h
  have hln := fun ty => len_map h ty
  clear h
  go_enter Try.func20, Try.ntmps20
  go_wp2_with (refine ha.mono ?_; rintro e w1 ⟨rfl, hw⟩; obtain rfl := hw.symm; clear hw)
  go_ret
  exact ⟨rfl, rfl⟩

/-- The weight of a key's write. -/
def weightA (C : Wc) (k : List UInt8) : Int := match getW C k with | some v => (k.length : Int) + (v.b.length : Int) | none => 0
set_option maxRecDepth 100000 in
theorem weight_any (h : Wst w F s mb M) (key : ByteArray) (hk : key.size ≤ maxLen) : Calls Try.prog 18 #[.pointer (some ⟨s, 0, none⟩), .string key] w fun e w' => e = .returned (.int .i64 (weightA (saysV M) key.data.toList)) ∧ Below w.heap.size w w' := by
  have ha := all_any h
  have hl := look_plain h key hk
  have hx : wgt ((vnOf M key.data.toList).getD zeroVn) = weightA (saysV M) key.data.toList ∧ ((vnOf M key.data.toList).getD zeroVn).k.size ≤ 140737488355328 ∧ ((vnOf M key.data.toList).getD zeroVn).z.length ≤ 140737488355328 := by
    unfold weightA
    rw [getW_says]
    cases he : vnOf M key.data.toList with
    | none => exact ⟨rfl, by decide, by decide⟩
    | some e =>
      obtain ⟨h1, h2⟩ := vnOf_some he
      obtain ⟨_, h3, h4, _⟩ := h.kz h1
      refine ⟨?_, by show e.k.size ≤ _; omega, by show e.z.length ≤ _; omega⟩
      show (e.k.size : Int) + (e.z.length : Int) = (key.data.toList.length : Int) + (e.z.length : Int)
      rw [← h2]
      simp [ky]
  obtain ⟨hx1, hx2, hx3⟩ := hx
  have hw := weigh_any ((vnOf M key.data.toList).getD zeroVn) w hx2 hx3
  rw [hx1] at hw
  generalize weightA (saysV M) key.data.toList = R at *
  generalize (vnOf M key.data.toList).getD zeroVn = x at *
  clear h hx1 hx2 hx3 hk
  unfold verV at *
  go_enter Try.func18, Try.ntmps18
  go_wp2_with fail
  refine ha.mono ?_
  rintro e w1 ⟨rfl, hw1⟩
  obtain rfl := hw1.symm
  clear hw1 ha
  go_wp2_with fail
  refine hw.mono ?_
  rintro e w1 ⟨rfl, hb⟩
  go_wp2
  go_ret
  exact ⟨rfl, hb⟩
end

end Go.Proofs.Ytbafjkanbbcbgaa
