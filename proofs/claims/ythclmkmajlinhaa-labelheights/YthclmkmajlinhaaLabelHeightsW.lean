/- That LabelHeights answers true of every list of labels. -/
import Derived.Test.YthclmkmajlinhaaHg3
import Derived.Test.YthclmkmajlinhaaHg5
import Derived.Test.YthclmkmajlinhaaOpen
namespace Go.Proofs.Ythclmkmajlinhaa.labelHeights
open Go.RowKit

theorem map_at (zs : List Nat) : (List.range zs.length).map (fun i => hgt zs (at0 zs i)) = zs.map (hgt zs) := by
  apply List.ext_getElem (by simp)
  intro i h1 h2
  rw [List.getElem_map, List.getElem_map, List.getElem_range, at0_get (by simpa using h2)]

theorem four_heights : (List.range 4).map (fun i => hgt [7, 1, 1, 3] (at0 [7, 1, 1, 3] i)) = [2, 0, 0, 1] := by
  have h1 : hgt [7, 1, 1, 3] 1 = 0 := hgt_of (by decide) (.inl rfl)
  have h3 : hgt [7, 1, 1, 3] 3 = 1 := by
    refine hgt_of (fun y hy hb => ?_) (.inr ⟨1, by decide, by decide, by rw [h1]⟩)
    simp at hy
    rcases hy with rfl | rfl | rfl
    · exact absurd hb (by decide)
    · rw [h1]; decide
    · exact absurd hb (by decide)
  have h7 : hgt [7, 1, 1, 3] 7 = 2 := by
    refine hgt_of (fun y hy hb => ?_) (.inr ⟨3, by decide, by decide, by rw [h3]⟩)
    simp at hy
    rcases hy with rfl | rfl | rfl
    · exact absurd hb (by decide)
    · rw [h1]; decide
    · rw [h3]; decide
  show [hgt [7, 1, 1, 3] 7, hgt [7, 1, 1, 3] 1, hgt [7, 1, 1, 3] 1, hgt [7, 1, 1, 3] 3] = _
  rw [h1, h3, h7]

theorem rowI_new (w : World) (cs : Array Value) (zs : List Nat) (h : cs = (zs.map encI).toArray) : RowI (w.alloc (.cells cs 3)) (some ⟨w.heap.size, 0, none⟩) zs := by
  subst h
  refine .inr ⟨w.heap.size, 0, rfl, by simp, fun i hi => ?_⟩
  rw [Nat.zero_add, cell_of_row _ _ _ _ _ _ (heap_alloc_new w _), List.getElem?_toArray]
  have := map_at0 (q := .i64) hi []
  rw [List.append_nil] at this
  exact this

set_option maxRecDepth 100000 in
set_option maxHeartbeats 2000000 in
theorem walk (N : Nat) (hN : SortsL N) (hbig : 17592186044416 ≤ N) (a : Option Addr) (cap : Nat) (zs : List Nat) (w : World) (h : Came1 w a cap zs) : Calls Try.prog 4 #[.slice a zs.length cap] w fun e w' => e = .returned (.bool true) ∧ Below w.heap.size w w' := by
  have hsz := h.size
  have hc := heights_any a cap zs w (distinct_any N hN zs (by omega) (by omega)) h.row h.all (by omega) h.none
  go_enter Try.func4, Try.ntmps4
  go_wp2_with fail
  refine hc.mono ?_
  rintro e w1 ⟨⟨g1, rfl, hr1, _⟩, hb1⟩
  clear hc
  have hp := plain_any a cap zs w1 (h.row.below hb1) (by omega)
  go_wp2_with fail
  refine hp.mono ?_
  rintro e w2 ⟨⟨g2, rfl, hr2⟩, hb2⟩
  clear hp
  have hq := rheights_any (some ⟨g2, 0, none⟩) zs.length zs w2 hr2 h.all (by omega)
  have hb12 := hb1.trans (hb2.mono hb1.size)
  have hr12 := hr1.keep (hb2.block _ hr1.lt)
  clear hb1 hb2 hr2 hr1
  go_wp2_with fail
  refine hq.mono ?_
  rintro e w3 ⟨⟨g3, rfl, hr3, _⟩, hb3⟩
  have hb13 := hb12.trans (hb3.mono hb12.size)
  have hr13 := hr12.keep (hb3.block _ hr12.lt)
  have hsi := sameInts_any _ _ zs.length zs.length _ _ w3 hr13.row hr3.row (by simp; unfold maxLen; omega)
  rw [decide_eq_true rfl, List.length_map, List.length_range] at hsi
  clear hq hb12 hb3 hr12 hr13 hr3
  go_wp2_with fail
  refine hsi.mono ?_
  rintro e w4 ⟨rfl, hb4⟩
  have hb14 := hb13.trans (hb4.mono hb13.size)
  clear hsi hb13 hb4
  have hrow5 := row_new w4 #[.int .u64 7, .int .u64 1, .int .u64 1, .int .u64 3] [7, 1, 1, 3] rfl
  have h64 : All64 [7, 1, 1, 3] := all64_small (by decide)
  have hc5 := heights_any (some ⟨w4.heap.size, 0, none⟩) 4 [7, 1, 1, 3] _ (distinct_any N hN _ (by simp; omega) (by simp)) hrow5 h64 (by simp) (fun e => by cases e)
  have hb5 : Below w.heap.size w (w4.alloc (.cells #[.int .u64 7, .int .u64 1, .int .u64 1, .int .u64 3] 36)) := hb14.alloc hb14.size _
  clear hrow5
  go_wp2_with fail
  refine hc5.mono ?_
  rintro e w6 ⟨⟨g6, rfl, hr6, _⟩, hb6⟩
  have hb16 := hb5.trans (hb6.mono hb5.size)
  have hr6b := hr6.keep (w' := w6.alloc (.cells #[.int .i64 2, .int .i64 0, .int .i64 0, .int .i64 1] 3)) (Below.heap_alloc _ _ _ hr6.lt)
  have hb7 : Below w.heap.size w (w6.alloc (.cells #[.int .i64 2, .int .i64 0, .int .i64 0, .int .i64 1] 3)) := hb16.alloc hb16.size _
  have hrow7 := rowI_new w6 #[.int .i64 2, .int .i64 0, .int .i64 0, .int .i64 1] [2, 0, 0, 1] rfl
  have hrr := hr6b.row
  have hl4 : [7, 1, 1, 3].length = 4 := rfl
  rw [hl4, four_heights] at hrr
  have hsi := sameInts_any _ _ 4 4 _ _ _ hrr hrow7 (by simp [maxLen])
  rw [decide_eq_true rfl] at hsi
  clear hc5 hrr hrow7 hr6 hr6b hb6 hl4
  go_wp2_with fail
  refine hsi.mono ?_
  rintro e w8 ⟨rfl, hb8⟩
  go_wp2_with fail
  go_ret
  exact ⟨rfl, hb7.trans (hb8.mono hb7.size)⟩

end Go.Proofs.Ythclmkmajlinhaa.labelHeights
