/- The calls whose answers the document fixes, walked. -/
import Derived.Test.YtejaaalgnbnalaaAw1
namespace Go.Proofs.Ytejaaalgnbnalaa
open Go.RowKit

theorem five1 : ∀ i, i < [104, 101, 108, 108, 111].length → (#[.int .u8 104, .int .u8 101, .int .u8 108, .int .u8 108, .int .u8 111] : Array Value)[i]? = some (.int .u8 ((at0 [104, 101, 108, 108, 111] i : Nat) : Int)) := by
  intro i hi
  have : i < 5 := hi
  match i, this with
  | 0, _ => rfl
  | 1, _ => rfl
  | 2, _ => rfl
  | 3, _ => rfl
  | 4, _ => rfl
theorem four1 : ∀ i, i < [32, 121, 111, 117].length → (#[.int .u8 32, .int .u8 121, .int .u8 111, .int .u8 117] : Array Value)[i]? = some (.int .u8 ((at0 [32, 121, 111, 117] i : Nat) : Int)) := by
  intro i hi
  have : i < 4 := hi
  match i, this with
  | 0, _ => rfl
  | 1, _ => rfl
  | 2, _ => rfl
  | 3, _ => rfl
theorem five2 : ∀ i, i < [108, 108, 111, 32, 120].length → (#[.int .u8 108, .int .u8 108, .int .u8 111, .int .u8 32, .int .u8 120] : Array Value)[i]? = some (.int .u8 ((at0 [108, 108, 111, 32, 120] i : Nat) : Int)) := by
  intro i hi
  have : i < 5 := hi
  match i, this with
  | 0, _ => rfl
  | 1, _ => rfl
  | 2, _ => rfl
  | 3, _ => rfl
  | 4, _ => rfl

set_option maxRecDepth 100000 in
set_option maxHeartbeats 1600000 in
theorem awake_any (w : World) : Calls Try.prog 7 #[] w fun e w' => e = .returned (.bool true) ∧ Below w.heap.size w w' := by
  have hnew := new_any w
  have kc1 := fun W => Lib.run_convert_bytes_const (P := Try.prog) W 23 5 #[.int .u8 104, .int .u8 101, .int .u8 108, .int .u8 108, .int .u8 111] 5 5 Try.underlying23 Try.underlying5
  have kc2 := fun W => Lib.run_convert_bytes_const (P := Try.prog) W 23 5 #[.int .u8 32, .int .u8 121, .int .u8 111, .int .u8 117] 4 4 Try.underlying23 Try.underlying5
  have kc3 := fun W => Lib.run_convert_bytes_const (P := Try.prog) W 23 5 #[.int .u8 108, .int .u8 108, .int .u8 111, .int .u8 32, .int .u8 120] 5 5 Try.underlying23 Try.underlying5
  go_enter Try.func7, Try.ntmps7
  go_wp2_with fail
  refine hnew.mono ?_
  rintro e w1 ⟨rfl, hq⟩
  have h1 : Na w w1 w.heap.size 0 [] 0 := by rw [hq]; exact Na.new w w (Below.refl _ _)
  clear hq hnew
  have kc := kc1 w1
  clear kc1
  obtain ⟨p, hp⟩ : ∃ p, p = w.heap.size := ⟨_, rfl⟩
  rw [← hp] at h1
  go_wp2_with fail
  rw [← hp]
  clear hp
  refine ((h1.below ((Below.refl _ _).alloc (Nat.le_refl _) _)).append (some ⟨w1.heap.size, 0, none⟩) 5 [104, 101, 108, 108, 111] (rowB_mark w1 _ _ _ _ five1) (by unfold All8; decide) (fun e => by cases e) (by simp) (by simp)).mono ?_
  rintro e w2 ⟨rfl, h2⟩
  clear kc h1
  go_wp2_with fail
  refine h2.sync.mono ?_
  rintro e w3 ⟨rfl, h3⟩
  clear h2
  have kc := kc2 w3
  clear kc2
  go_wp2_with fail
  refine ((h3.below ((Below.refl _ _).alloc (Nat.le_refl _) _)).append (some ⟨w3.heap.size, 0, none⟩) 4 [32, 121, 111, 117] (rowB_mark w3 _ _ _ _ four1) (by unfold All8; decide) (fun e => by cases e) (by simp) (by simp)).mono ?_
  rintro e w4 ⟨rfl, h4⟩
  clear kc h3
  go_wp2_with fail
  refine (h4.trim (by simp) 2 (by simp) 2 (by simp)).mono ?_
  rintro e w5 ⟨rfl, h5⟩
  clear h4
  go_wp2_with fail
  refine (h5.crash (by simp) 2 1 (by omega) 2 (by simp)).mono ?_
  rintro e w6 ⟨rfl, h6⟩
  clear h5
  have e6 : crashB (List.drop 2 ([] ++ [104, 101, 108, 108, 111] ++ [32, 121, 111, 117])) (([] ++ [104, 101, 108, 108, 111] : List Nat).length - 2) 2 1 = [108, 108, 111, 32, 120] := by decide
  rw [e6] at h6
  have h6 : Na w w6 p 2 [108, 108, 111, 32, 120] 5 := h6
  go_wp2_with fail
  refine (h6.read 0 5 (by simp) 2 (by simp)).mono ?_
  rintro e w7 ⟨⟨⟨r, rfl, hr⟩, hb7⟩, h7⟩
  clear h6 e6
  have hr : OwB w7 w6.heap.size r [108, 108, 111, 32, 120] := hr
  go_wp2_with fail
  refine (h7.bounds (by simp)).mono ?_
  rintro e w8 ⟨rfl, hb8⟩
  have hr8 := hr.below hb8
  have hbe := (h7.below hb8).bel
  obtain ⟨ra, rc, rfl, hrow, _, _, hnil⟩ := hr8.row
  have kc := kc3 w8
  have hsm := same_any ra (some ⟨w8.heap.size, 0, none⟩) rc 5 [108, 108, 111, 32, 120] 5 rfl _ (hrow.below ((Below.refl _ _).alloc (Nat.le_refl _) _)) (rowB_mark w8 #[.int .u8 108, .int .u8 108, .int .u8 111, .int .u8 32, .int .u8 120] 5 (5, 6) _ five2) hnil (fun e => by cases e)
  have hbe2 := hbe.alloc hbe.size (.cells #[.int .u8 108, .int .u8 108, .int .u8 111, .int .u8 32, .int .u8 120] 5 (5, 6))
  clear kc3 h7 hr hr8 hrow hnil hbe
  go_wp2_with fail
  refine hsm.mono ?_
  rintro e w9 ⟨rfl, hq9⟩
  rw [← hq9] at hbe2
  clear hsm hq9 kc
  go_wp2_with fail
  go_ret
  exact ⟨rfl, hbe2⟩

end Go.Proofs.Ytejaaalgnbnalaa
