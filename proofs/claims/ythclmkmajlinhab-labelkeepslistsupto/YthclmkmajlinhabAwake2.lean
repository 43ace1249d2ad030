/- That 'awake' answers true, in whatever world. -/
import Derived.Test.YthclmkmajlinhabAwake
namespace Go.Proofs.Ythclmkmajlinhab
open Go.RowKit Go.Maps

theorem all64_small {zs : List Nat} (h : ∀ z ∈ zs, z < 1000) : All64 zs := fun z hz => by have := h z hz; unfold W64; omega

theorem hide_prop {p : Prop} (h : p) : Hid p := h
theorem row_newT (w : World) (cs : Array Value) (zs : List Nat) (h : cs = (zs.map encU).toArray) : Row (w.alloc (.cells cs 35)) (some ⟨w.heap.size, 0, none⟩) zs := by
  subst h
  refine .inr ⟨w.heap.size, 0, rfl, by simp, fun i hi => ?_⟩
  rw [Nat.zero_add, cell_of_row _ _ _ _ _ _ (heap_alloc_new w _), List.getElem?_toArray]
  have := map_at0 (q := .u64) hi []
  rw [List.append_nil] at this
  exact this

set_option maxRecDepth 100000 in
set_option maxHeartbeats 4000000 in
theorem awake_any (w : World) : Calls Try.prog 13 #[] w fun e w' => e = .returned (.bool true) ∧ Below w.heap.size w w' := by
  go_enter Try.func13, Try.ntmps13
  go_wp2_with fail
  have hrow1 := row_new w #[.int .u64 0, .int .u64 1, .int .u64 2, .int .u64 3] [0, 1, 2, 3] rfl
  have hb0 : Below w.heap.size w (w.alloc (.cells #[.int .u64 0, .int .u64 1, .int .u64 2, .int .u64 3] 36)) := (Below.refl _ _).alloc (Nat.le_refl _) _
  refine (covers_any (some ⟨w.heap.size, 0, none⟩) 4 [0, 1, 2, 3] (w.alloc (.cells #[.int .u64 0, .int .u64 1, .int .u64 2, .int .u64 3] 36)) 12 sortsI12 (by decide) (distinct_nodup 12 sortsL12 _ (by decide) (by decide) (by decide)) hrow1 (all64_small (by decide)) (by decide) (fun h => by cases h)).mono ?_
  rintro e w1 ⟨hb1, v, C, fa, rfl, hm, hs, hA, hP⟩
  have hcnt := covers_count hm hs hA
  have hn4 : (prsTo [0, 1, 2, 3] fa [0, 1, 2, 3].length).length = 4 := hcnt
  rw [hn4] at hP
  obtain ⟨pa, pc, rfl⟩ : ∃ a c, v = .slice a 4 c := by
    rcases hP.2 with ⟨_, h0⟩ | ⟨g, cp, cur, e, _⟩
    · cases h0
    · exact ⟨_, _, e⟩
  have hb2 := hb0.trans (hb1.mono hb0.size)
  clear hrow1 hb0 hb1 hm hs hA hP hcnt hn4
  go_wp2_with fail
  have hrow2 := row_new w1 #[.int .u64 1, .int .u64 2] [1, 2] rfl
  have hb3 : Below w.heap.size w (w1.alloc (.cells #[.int .u64 1, .int .u64 2] 36)) := hb2.alloc hb2.size _
  refine (close_any 12 sortsL12 (some ⟨w1.heap.size, 0, none⟩) 2 [1, 2] (w1.alloc (.cells #[.int .u64 1, .int .u64 2] 36)) hrow2 (all64_small (by decide)) (by unfold maxLen; decide) (fun S hn _ hS => Nat.le_trans (few12 hn hS) (by decide))).mono ?_
  rintro e w2 ⟨hb4, h⟩
  have hb5 := hb3.trans (hb4.mono hb3.size)
  rcases h with ⟨rfl, h⟩ | ⟨v, C, rfl, _, hC, hrow⟩
  · exfalso
    rcases h with h | ⟨X, hn, hl, hX⟩
    · cases h
    · have := few12 hn hX
      omega
  · have hC4 := close12 hC
    subst hC4
    obtain ⟨va, vc, rfl, hvr, _⟩ := row_of_owns hrow
    clear hrow2 hb2 hb3 hb4 hrow hC
    have w64 : ∀ n : Nat, n < 1000 → W64 n := fun n h => by unfold W64; omega
    have HW := hide_prop w64
    clear w64
    go_wp2_with fail
    refine (leq_any 1 3 _ (HW.out 1 (by decide)) (HW.out 3 (by decide))).mono ?_
    rintro e w3 ⟨rfl, hq⟩
    have hq2 := hq.symm
    subst hq2
    rw [show lq 1 3 = true from by decide]
    go_wp2_with fail
    refine (leq_any 3 1 _ (HW.out 3 (by decide)) (HW.out 1 (by decide))).mono ?_
    rintro e w3 ⟨rfl, hq⟩
    have hq2 := hq.symm
    subst hq2
    rw [show lq 3 1 = false from by decide]
    go_wp2_with fail
    refine (join_any 1 6 _ (HW.out 1 (by decide)) (HW.out 6 (by decide))).mono ?_
    rintro e w3 ⟨rfl, hq⟩
    have hq2 := hq.symm
    subst hq2
    rw [show ((1 ||| 6 : Nat) : Int) = 7 from by decide]
    go_wp2_with fail
    refine (meet_any 3 6 _ (HW.out 3 (by decide)) (HW.out 6 (by decide))).mono ?_
    rintro e w3 ⟨rfl, hq⟩
    have hq2 := hq.symm
    subst hq2
    rw [show ((3 &&& 6 : Nat) : Int) = 2 from by decide]
    go_wp2_with fail
    refine (check_any (some ⟨w2.heap.size, 0, none⟩) 2 [1, 2] _ (row_new w2 #[.int .u64 1, .int .u64 2] [1, 2] rfl) (all64_small (by decide)) (by unfold maxLen; decide) (by decide)).mono ?_
    rintro e w3 ⟨rfl, hb6⟩
    rw [show ((checkOf [1, 2] : Nat) : Int) = 12 from by decide]
    have hb7 := hb5.alloc hb5.size (.cells #[.int .u64 1, .int .u64 2] 36)
    have hb8 := hb7.trans (hb6.mono hb7.size)
    have hv3 := hvr.below (((Below.refl _ w2).alloc (Nat.le_refl _) (.cells #[.int .u64 1, .int .u64 2] 36)).trans (hb6.mono (by simp)))
    clear hb5 hb6 hb7 hvr
    go_wp2_with fail
    refine (check_any (some ⟨w3.heap.size, 0, none⟩) 4 [0, 1, 2, 3] _ (row_new w3 #[.int .u64 0, .int .u64 1, .int .u64 2, .int .u64 3] [0, 1, 2, 3] rfl) (all64_small (by decide)) (by unfold maxLen; decide) (by decide)).mono ?_
    rintro e w4 ⟨rfl, hb6⟩
    rw [show ((checkOf [0, 1, 2, 3] : Nat) : Int) = 0 from by decide]
    have hb7 := hb8.alloc hb8.size (.cells #[.int .u64 0, .int .u64 1, .int .u64 2, .int .u64 3] 36)
    have hb9 := hb7.trans (hb6.mono hb7.size)
    have hv4 := hv3.below (((Below.refl _ w3).alloc (Nat.le_refl _) (.cells #[.int .u64 0, .int .u64 1, .int .u64 2, .int .u64 3] 36)).trans (hb6.mono (by simp)))
    clear hb8 hb6 hb7 hv3
    go_wp2_with fail
    have hv5 := hv4.below ((Below.refl _ w4).alloc (Nat.le_refl _) (.cells #[.int .u64 0, .int .u64 1, .int .u64 2, .int .u64 3] 35))
    have hr5 : Row (w4.alloc (.cells #[.int .u64 0, .int .u64 1, .int .u64 2, .int .u64 3] 35)) (some ⟨w4.heap.size, 0, none⟩) [0, 1, 2, 3] := row_newT w4 #[.int .u64 0, .int .u64 1, .int .u64 2, .int .u64 3] [0, 1, 2, 3] rfl
    refine (sameLabels_any va (some ⟨w4.heap.size, 0, none⟩) vc 4 [0, 1, 2, 3] [0, 1, 2, 3] _ hv5 hr5 (by unfold maxLen; decide)).mono ?_
    rintro e w5 ⟨rfl, hb6⟩
    rw [show decide ([0, 1, 2, 3] = [0, 1, 2, 3]) = true from by decide]
    have hb7 := hb9.alloc hb9.size (.cells #[.int .u64 0, .int .u64 1, .int .u64 2, .int .u64 3] 35)
    have hb8 := hb7.trans (hb6.mono hb7.size)
    clear hv5 hr5 hv4 hb6 hb7 hb9
    go_wp2
    go_ret
    exact ⟨rfl, hb8⟩

end Go.Proofs.Ythclmkmajlinhab
