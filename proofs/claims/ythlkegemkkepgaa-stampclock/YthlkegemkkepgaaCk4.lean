/- What the laws of layer 12 begin with. -/
import Derived.Test.YthlkegemkkepgaaCk3
namespace Go.Proofs.Ythlkegemkkepgaa
open Go.RowKit

set_option maxRecDepth 100000 in
set_option maxHeartbeats 400000 in
theorem head_any (w : World) : Calls Try.prog 5 #[] w fun e w' => e = .returned (.bool true) ∧ Below w.heap.size w w' := by
  have hn := new_ok 7 3 (by unfold fine; omega) w
  obtain ⟨w1, hw1⟩ : ∃ w1, w1 = w.alloc (.cells #[.int .i64 7, .int .i64 3] 59) := ⟨_, rfl⟩
  have hb1 : Below w.heap.size w w1 := by rw [hw1]; exact (Below.refl _ _).alloc (Nat.le_refl _) _
  have hp1 : Pk w1 w.heap.size ⟨true, 7, 3⟩ := fun _ => by rw [hw1]; exact heap_alloc_new w _
  have hok : CkOk ⟨true, 7, 3⟩ := ⟨fun h => (by cases h), by simp, by simp⟩
  have hnx := next_any ⟨true, 7, 3⟩ hok w.heap.size w1 hp1
  have e1 : nextN ⟨true, 7, 3⟩ = 8 := by simp [nextN, worn]
  have e2 : nextE ⟨true, 7, 3⟩ = 0 := by simp [nextE, worn]
  have e3 : nextC ⟨true, 7, 3⟩ = ⟨true, 8, 3⟩ := by simp [nextC, worn]
  have e4 : ∀ n k, ptrK ⟨true, n, k⟩ w.heap.size = .pointer (some ⟨w.heap.size, 0, none⟩) := fun n k => by simp [ptrK]
  rw [e1, e2, e3, e4] at hnx
  rw [← hw1] at hn
  clear hw1 e1 e2 e3 hp1 hok
  go_enter Try.func5, Try.ntmps5
  go_wp2_with fail
  refine hn.mono ?_
  rintro e w2 ⟨rfl, rfl⟩
  clear hn
  go_wp2_with fail
  refine hnx.mono ?_
  rintro e w3 ⟨rfl, hp3, hc3⟩
  have hb3 : Below w.heap.size w w3 := hb1.trans (hc3.below (fun k hk => by rw [hk.2]; exact Nat.le_refl _) hb1.size)
  have hh := horizon_any ⟨true, 8, 3⟩ ⟨fun h => (by cases h), by simp, by simp⟩ w.heap.size w3 hp3
  rw [e4] at hh
  have hz3 := hb3.size
  clear hnx hc3 hp3 e4
  go_wp2_with fail
  refine hh.mono ?_
  rintro e w4 ⟨rfl, hb4⟩
  have hb4' := hb3.trans (hb4.mono hz3)
  have hz4 := hb4'.size
  have r1 := row_one w4 1
  have r2 := row_one (w4.alloc (.cells #[.int .i64 1] 3)) 1
  have hb5 : Below w4.heap.size w4 (w4.alloc (.cells #[.int .i64 1] 3)) := (Below.refl _ _).alloc (Nat.le_refl _) _
  have hb6 : Below (w4.alloc (.cells #[.int .i64 1] 3)).heap.size (w4.alloc (.cells #[.int .i64 1] 3)) ((w4.alloc (.cells #[.int .i64 1] 3)).alloc (.cells #[.int .i64 1] 3)) := (Below.refl _ _).alloc (Nat.le_refl _) _
  have hbl := below_any _ _ 1 1 [1] [1] _ (r1.below hb6) r2 (by simp)
  rw [underB_yes ⟨rfl, fun i hi => Int.le_refl _⟩] at hbl
  have hb7 := hb4'.trans ((hb5.trans (hb6.mono hb5.size)).mono hz4)
  have hz7 := hb7.size
  rw [show (w4.alloc (.cells #[.int .i64 1] 3)).heap.size = w4.heap.size + 1 by simp] at hbl
  clear hh r1 r2 hb5 hb6 hb4
  go_wp2_with (refine hbl.mono ?_; rintro e w5 ⟨rfl, hb8⟩)
  go_ret
  exact ⟨rfl, hb7.trans (hb8.mono hz7)⟩

end Go.Proofs.Ythlkegemkkepgaa
