/- The walk of the law QueueNew. -/
import Derived.Test.YtomfhbngpikjeaaQuRef
import Derived.Test.YtomfhbngpikjeaaQuFix
import Derived.Test.YtomfhbngpikjeaaQu5S
namespace Go.Proofs.Ytomfhbngpikjeaa.queueNew
open Go.RowKit

set_option maxRecDepth 100000 in
set_option maxHeartbeats 1000000 in
theorem walk (most : Int) (_ : -9223372036854775808 ≤ most ∧ most ≤ 9223372036854775807) (w : World) :
    Calls Try.prog 3 #[.int .i64 most] w fun e w' => e = .returned (.bool true) ∧ Below w.heap.size w w' := by
  have hrn := rnew_any most w
  by_cases he : newE most = 0
  · rw [if_pos he, he] at hrn
    obtain ⟨N, rfl, hN⟩ : ∃ N : Nat, most = (N : Int) ∧ N ≤ 65536 := by
      unfold newE at he
      by_cases h1 : most < 0
      · rw [if_pos h1] at he; omega
      · rw [if_neg h1] at he
        by_cases h2 : 65536 < most
        · rw [if_pos h2] at he; omega
        · exact ⟨most.toNat, by omega, by omega⟩
    have hnew := newS_any N
    clear he
    go_enter Try.func3, Try.ntmps3
    go_wp2_with fail
    refine hrn.mono ?_
    rintro e w1 ⟨rfl, hb1⟩
    clear hrn
    go_wp2_with fail
    obtain ⟨W1, hW1⟩ : ∃ W1, W1 = w1.alloc (.cells #[.int .i64 (N : Int), .slice none 0 0] 24) := ⟨_, rfl⟩
    have hA1 : W1.heap[w1.heap.size]? = some (.cells #[.int .i64 (N : Int), .slice none 0 0] 24 (0, 0)) := by rw [hW1]; exact heap_alloc_new _ _
    have hB1 : Below w.heap.size w W1 := by rw [hW1]; exact hb1.alloc hb1.size _
    have hz1 : w1.heap.size < W1.heap.size := by rw [hW1]; simp
    rw [← hW1]
    obtain ⟨c, hc⟩ : ∃ c, c = w1.heap.size := ⟨_, rfl⟩
    rw [← hc] at hA1 hz1 ⊢
    clear hW1 hc hb1
    refine (hnew _ hN).mono ?_
    rintro e w2 ⟨rfl, hq2, hb2⟩
    obtain ⟨b, hb⟩ : ∃ b, b = W1.heap.size := ⟨_, rfl⟩
    rw [← hb] at hq2 ⊢
    have HA1 := hide_it hA1
    have HB1 := hide_it hB1
    have HQ2 := hide_it hq2
    have HB2 := hide_it hb2
    have HBB := hide_it hb
    have HZ := hide_it hz1
    clear hA1 hB1 hq2 hb2 hb hz1 hnew
    go_wp2_with fail
    refine (fixed_any w2).mono ?_
    rintro e w3 ⟨rfl, hb3⟩
    have hs2 := HB2.out.size
    have hA3 := (hb3.block c (by have := HZ.out; omega)).trans ((HB2.out.block c HZ.out).trans HA1.out)
    have c0 := cell_of_row _ _ 0 _ _ _ hA3
    have c1 := cell_of_row _ _ 1 _ _ _ hA3
    simp at c0 c1
    have hq3 : QuS w3 b b N [] := HQ2.out.below hb3
    have HQ3 := hide_it hq3
    have HB3 := hide_it hb3
    clear hq3 hb3 hA3
    have hend : ∀ w4 w5 : World, Below w3.heap.size w3 w4 → Only b b w4 w5 → Below w.heap.size w w5 := fun w4 w5 h1 h2 => by
      have z1 := HB1.out
      have s1 := z1.size
      have z2 := HB2.out.mono (B' := w.heap.size) s1
      have s2 := z2.size
      have z3 := HB3.out.mono (B' := w.heap.size) (by omega)
      have s3 := z3.size
      have z4 := h1.mono (B' := w.heap.size) (by omega)
      have s4 := z4.size
      have hb := HBB.out
      exact (((z1.trans z2).trans z3).trans z4).trans (h2.below (by omega) (by omega) (by omega))
    have HEND := hide_it hend
    clear hend
    by_cases h0 : N = 0
    · subst h0
      have hrp := rpush_full 0 none 0 { data := #[97] } w3
      go_wp2_with fail
      refine hrp.mono ?_
      rintro e w4 ⟨rfl, hb4⟩
      have hpu := pushS_full b b 0 [] { data := #[97] } w4 (HQ3.out.below hb4) rfl
      have HB4 := hide_it hb4
      clear hrp hb4
      go_wp2_with fail
      refine hpu.mono ?_
      rintro e w5 ⟨rfl, hb5⟩
      have hle := lenS_any b b 0 [] w5 ((HQ3.out.below HB4.out).below hb5)
      have HB5 := hide_it hb5
      clear hpu hb5
      simp only [List.length_nil, Int.natCast_zero] at hle
      go_wp2_with fail
      refine hle.mono ?_
      rintro e w6 ⟨rfl, hq⟩
      have hq2 := hq.symm
      subst hq2
      clear hq hle
      go_wp2
      go_ret
      exact ⟨rfl, HEND.out _ _ HB4.out (Only.of_below HB5.out)⟩
    · have hrp := rpush_any N none 0 [] { data := #[97] } w3 (.inl rfl) (fun _ => ⟨rfl, rfl⟩) (by simp; omega) hN
      simp only [List.length_nil] at hrp
      go_wp2_with fail
      refine hrp.mono ?_
      rintro e w4 ⟨v, rfl, _, hb4⟩
      have hpu := pushS_any b b N [] { data := #[97] } w4 (HQ3.out.below hb4) (by simp; omega)
      have HB4 := hide_it hb4
      clear hrp hb4
      go_wp2_with fail
      refine hpu.mono ?_
      rintro e w5 ⟨rfl, ⟨g, hg, hq5⟩, ho5⟩
      have hle := lenS_any b g N _ w5 hq5
      have HO5 := hide_it ho5
      clear hpu hq5 ho5 hg
      simp only [List.nil_append, List.length_cons, List.length_nil, Nat.zero_add, Int.natCast_one] at hle
      go_wp2_with fail
      refine hle.mono ?_
      rintro e w6 ⟨rfl, hq⟩
      have hq2 := hq.symm
      subst hq2
      clear hq hle
      go_wp2
      go_ret
      exact ⟨rfl, HEND.out _ _ HB4.out HO5.out⟩
  · rw [if_neg he] at hrn
    have hnew := newS_no most
    obtain ⟨E, hE⟩ : ∃ E, E = newE most := ⟨_, rfl⟩
    rw [← hE] at hrn he hnew
    clear hE
    go_enter Try.func3, Try.ntmps3
    go_wp2_with fail
    refine hrn.mono ?_
    rintro e w1 ⟨rfl, hb1⟩
    clear hrn
    go_wp2_with fail
    refine (hnew _ he).mono ?_
    rintro e w2 ⟨rfl, hq⟩
    have hq2 := hq.symm
    subst hq2
    clear hq hnew
    have HB1 := hide_it hb1
    clear hb1
    go_wp2_with fail
    refine (fixed_any _).mono ?_
    rintro e w3 ⟨rfl, hb3⟩
    have HB3 := hide_it hb3
    clear hb3
    go_wp2
    go_ret
    have z1 := HB1.out
    have z2 := z1.alloc z1.size (.cells #[.int .i64 0, .slice none 0 0] 24)
    exact ⟨rfl, z2.trans (HB3.out.mono z2.size)⟩

end Go.Proofs.Ytomfhbngpikjeaa.queueNew
