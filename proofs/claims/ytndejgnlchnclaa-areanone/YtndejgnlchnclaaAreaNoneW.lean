/- The law on an area that is not there, walked. -/
import Derived.Test.YtndejgnlchnclaaArNo
import Derived.Test.YtndejgnlchnclaaOpenStp
namespace Go.Proofs.Ytndejgnlchnclaa.areaNone
open Go.RowKit

set_option maxRecDepth 100000 in
set_option maxHeartbeats 1600000 in
theorem walk (t : Stp) (w : World) (_ht : StpOk w t) :
    Calls Try.prog 6 #[.agg #[.int .i64 t.k, .int .i64 t.a, .int .i64 t.b, .slice t.d.a t.d.p.length t.d.c]] w fun e w' => e = .returned (.bool true) ∧ Below w.heap.size w w' := by
  obtain ⟨x0, x1, x2, d⟩ := t
  obtain ⟨da, dc, zs⟩ := d
  simp only
  have hb0 : Below w.heap.size w (w.alloc (.cells #[.int .i64 x0, .int .i64 x1, .int .i64 x2, .slice da zs.length dc] 38)) := (Below.refl _ _).alloc (Nat.le_refl _) _
  have hnew := heap_alloc_new w (.cells #[.int .i64 x0, .int .i64 x1, .int .i64 x2, .slice da zs.length dc] 38)
  obtain ⟨W0, hW0⟩ : ∃ W0, W0 = w.alloc (.cells #[.int .i64 x0, .int .i64 x1, .int .i64 x2, .slice da zs.length dc] 38) := ⟨_, rfl⟩
  rw [← hW0] at hb0 hnew
  have hlt : w.heap.size < W0.heap.size := (Array.getElem?_eq_some_iff.1 hnew).1
  have hwr := IntKind.wrap_u8' x2
  obtain ⟨y, hy⟩ : ∃ y, y = IntKind.u8.wrap x2 := ⟨_, rfl⟩
  clear hwr
  go_enter Try.func6, Try.ntmps6
  have c1 := cell_of_row _ _ 1 _ _ _ hnew
  have c2 := cell_of_row _ _ 2 _ _ _ hnew
  have c3 := cell_of_row _ _ 3 _ _ _ hnew
  rw [hW0] at c1 c2 c3
  go_wp2_with fail
  rw [← hW0] at c1 c2 c3
  rw [← hW0]
  clear hW0
  refine (read_nil x1 x2 W0).mono ?_
  rintro e w1 ⟨rfl, hq⟩
  obtain rfl := hq
  go_wp2_with fail
  refine (bounds_nil _).mono ?_
  rintro e w2 ⟨rfl, hq⟩
  obtain rfl := hq
  go_wp2_with fail
  refine (image_nil _).mono ?_
  rintro e w3 ⟨rfl, hb3⟩
  have hn3 := (hb3.block w.heap.size hlt).trans hnew
  have hb4 := hb0.trans (hb3.mono (Nat.le_of_lt hlt))
  have hb5 := hb4.alloc hb4.size (.cells #[.int .i64 0, .slice none 0 0] 47)
  obtain ⟨W4, hW4⟩ : ∃ W4, W4 = w3.alloc (.cells #[.int .i64 0, .slice none 0 0] 47) := ⟨_, rfl⟩
  have hnb := heap_alloc_new w3 (.cells #[.int .i64 0, .slice none 0 0] 47)
  have hold : W4.heap[w.heap.size]? = some (.cells #[.int .i64 x0, .int .i64 x1, .int .i64 x2, .slice da zs.length dc] 38 (0, 0)) := by rw [hW4]; exact (Below.heap_alloc w3 _ _ (Array.getElem?_eq_some_iff.1 hn3).1).trans hn3
  rw [← hW4] at hnb hb5
  have d1 := cell_of_row _ _ 1 _ _ _ hold
  have d2 := cell_of_row _ _ 2 _ _ _ hold
  have d3 := cell_of_row _ _ 3 _ _ _ hold
  have i0 := cell_of_row _ _ 0 _ _ _ hnb
  have i1 := cell_of_row _ _ 1 _ _ _ hnb
  have haw := awake_any W4
  clear c1 c2 c3 hn3 hold hb4 hb3 hnew hnb hb0 hlt
  rw [hW4] at d1 d2 d3
  go_wp2_with fail
  rw [← hW4] at d1 d2 d3
  rw [← hW4]
  clear hW4
  refine (append_nil _ W4).mono ?_
  rintro e y1 ⟨rfl, hq⟩
  obtain rfl := hq
  go_wp2_with fail
  refine (sync_nil _).mono ?_
  rintro e y2 ⟨rfl, hq⟩
  obtain rfl := hq
  go_wp2_with fail
  refine (cut_nil _ _).mono ?_
  rintro e y3 ⟨rfl, hq⟩
  obtain rfl := hq
  go_wp2_with fail
  refine (trim_nil _ _).mono ?_
  rintro e y4 ⟨rfl, hq⟩
  obtain rfl := hq
  go_wp2_with fail
  refine (crash_nil _ _ _).mono ?_
  rintro e y5 ⟨rfl, hq⟩
  obtain rfl := hq
  go_wp2_with fail
  refine haw.mono ?_
  rintro e y6 ⟨rfl, hb6⟩
  have hbe := hb5.trans (hb6.mono hb5.size)
  clear haw d1 d2 d3 i0 i1
  go_wp2_with fail
  go_ret
  exact ⟨rfl, hbe⟩

end Go.Proofs.Ytndejgnlchnclaa.areaNone
