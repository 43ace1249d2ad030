/- The library's sort at ints of the call's own, of every length, by the shelf's contract. -/
import Derived.Test.YthclmkmajlinhabAwake
import Derived.Test.YthclmkmajlinhabLay9
import Derived.Sort.OwnSortedInts
namespace Go.Proofs.Ythclmkmajlinhab
open Go.RowKit Go.Sort

theorem sort_cast (l : List Nat) : (l.map fun n : Nat => (n : Int)).mergeSort (fun x y => decide (x ≤ y)) = (l.mergeSort fun x y => decide (x ≤ y)).map fun n : Nat => (n : Int) := by
  symm
  apply List.map_mergeSort
  intro a _ b _
  simp

theorem sortsI : SortsI 2305843009213693952 := fun B v l w hrow hl => by
  rcases hrow.2 with ⟨rfl, hz⟩ | ⟨g, cap, cur, rfl, hbase, hb, h1, h2, h3, h4⟩
  · have hl0 : l = [] := List.eq_nil_of_length_eq_zero hz
    subst hl0
    refine (sort_noneI none 0 w).mono fun e w' ⟨he, hw⟩ => ⟨he, [], List.Perm.refl _, fun p q _ _ h => by simp at h, by rw [hw]; exact World.ownsRow_nil _ _ _ _, by rw [hw]; exact World.grownBy.refl _ _⟩
  · have hm : l.map encI = (l.map fun n : Nat => (n : Int)).map (Value.int .i64) := by simp [encI]
    have hlen : (l.map fun n : Nat => (n : Int)).length = l.length := by simp
    have hH : Holds (Value.int .i64) w g 0 (l.map fun n : Nat => (n : Int)).toArray := holds_of_blockI hb (by rw [hlen, ← hm]; simpa using h4)
    have hc := Any.slices_Sort_int lays189 g 0 cap (l.map fun n : Nat => (n : Int)) w hH (Array.getElem?_eq_some_iff.1 hb).1 (by rw [hlen]; omega)
    rw [hlen] at hc
    refine Calls.mono (show Calls Try.prog 23 _ w _ from hc) fun e w' ⟨he, n, os, hw⟩ => ⟨he, l.mergeSort (fun x y => decide (x ≤ y)), List.mergeSort_perm _ _, ?_, ?_, ?_⟩
    · have hp : (l.mergeSort (fun x y => decide (x ≤ y))).Pairwise (fun x y => decide (x ≤ y) = true) := List.pairwise_mergeSort (fun a b c h1 h2 => by simp at *; omega) (fun a b => by simp; omega) l
      intro p q _ hpq hq
      have := List.pairwise_iff_getElem.1 hp p q (by omega) hq hpq
      rw [at0_get (by omega), at0_get hq] at this
      simpa using this
    · have hls : (l.mergeSort (fun x y => decide (x ≤ y))).length = l.length := List.length_mergeSort _
      rw [hw, sort_cast, hls]
      have := ownsRow_sortedI (w := w) (n := n) (os := os) (ss := l.map fun n : Nat => (n : Int)) (ts := (l.mergeSort fun x y => decide (x ≤ y)).map fun n : Nat => (n : Int)) (by simp) hbase hb (by rw [hlen]; exact h1) h2 h3
      rw [hlen, List.map_map] at this
      exact this
    · rw [hw]
      exact grownBy_sortedI _

end Go.Proofs.Ythclmkmajlinhab
