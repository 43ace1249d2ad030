/- What one call answers of the document's reader: the rest of the calls, and any call. -/
import Derived.Test.YtfhinodieghklaaRef6
namespace Go.Proofs.Ytfhinodieghklaa
open Go.RowKit

/-- The block of told's result. -/
theorem told_res (w : World) (a : Option Addr) (n cap at_ f : Nat) (k low high most : Int) : (toldW w a n cap at_ f k low high most).heap[w.heap.size + 1 + 1]? = some (.cells #[.slice none 0 0, .int .i64 0, .int .i64 0] 42 (0, 0)) := by
  have e := heap_alloc_new ((w.alloc (.cells #[.slice a n cap, .int .i64 (at_ : Int), .int .i64 (f : Int)] 42)).alloc (.cells #[.int .i64 k, .int .i64 low, .int .i64 high, .int .i64 most] 48)) (.cells #[.slice none 0 0, .int .i64 0, .int .i64 0] 42)
  simp only [World.size_alloc] at e
  exact e

/-- What is written into a block of no bytes leaves rows of bytes as they are. -/
theorem RowB.far {w w' : World} {p : Nat} {a : Option Addr} {zs : List Nat} {cs : Array Value} {t : TypeId} (hr : RowB w a zs) (hh : w.heap[p]? = some (.cells cs t (0, 0))) (hno : ∀ (i : Nat) (z : Int), cs[i]? ≠ some (.int .u8 z)) (hg : w.grownBy w' (some p)) : RowB w' a zs := by
  rcases hr with h | ⟨b, o, rfl, hlt, hc⟩
  · exact .inl h
  · by_cases h0 : zs.length = 0
    · exact .inl h0
    · have hne : b ≠ p := fun e => by
        subst e
        have h1 := hc 0 (by omega)
        rw [cell_of_row _ _ _ _ _ _ hh] at h1
        exact hno _ _ h1
      exact .inr ⟨b, o, rfl, Nat.lt_of_lt_of_le hlt hg.size, fun i hi => by rw [World.cell?_of_block (w := w) (hg.block b hlt (by simpa using hne))]; exact hc i hi⟩
theorem ref_no8 (a : Option Addr) (n cap : Nat) (x y : Int) (i : Nat) (z : Int) : (#[Value.slice a n cap, .int .i64 x, .int .i64 y])[i]? ≠ some (.int .u8 z) := by
  match i with
  | 0 => simp
  | 1 => simp
  | 2 => simp
  | i + 3 => simp
theorem grown3 (w : World) (g : Nat) (x y z : Value) : w.grownBy (((w.setCell ⟨g, 0, none⟩ x).setCell ⟨g, 1, none⟩ y).setCell ⟨g, 2, none⟩ z) (some g) :=
  grown_setCell (grown_setCell (grown_setCell (World.grownBy.refl w (some g)) _ _) _ _) _ _

set_option maxRecDepth 100000 in
set_option maxHeartbeats 1000000 in
theorem told4 (a : Option Addr) (B : List Nat) (cap at_ : Nat) (low high most : Int) (s : List Nat × Nat) (w : World) (h : RefIs w a B cap at_ s) (hl1 : -9223372036854775808 ≤ low) (hl2 : low ≤ 9223372036854775807) (hh1 : -9223372036854775808 ≤ high) (hh2 : high ≤ 9223372036854775807) :
    Calls Try.prog 24 #[refV a B.length cap at_ s.2, .agg #[.int .i64 4, .int .i64 low, .int .i64 high, .int .i64 most]] w fun e w' => Told a B cap w ((u64Of (rdOf 0 (takeShort low high) s).1, []), (rdOf 0 (takeShort low high) s).2) e w' := by
  have hb0 := told_below w a B.length cap at_ s.2 4 low high most
  have hs0 := told_size w a B.length cap at_ s.2 4 low high most
  have hR0 := told_res w a B.length cap at_ s.2 4 low high most
  have hcall := rint_any a B cap at_ low high s _ (h.below hb0) hl1 hl2 hh1 hh2
  generalize rdOf 0 (takeShort low high) s = x at *
  obtain ⟨n, st⟩ := x
  have hw := u64_wrap n
  clear hl1 hl2 hh1 hh2
  unfold refV at hcall ⊢
  go_enter Try.func24, Try.ntmps24
  go_wp2_with fail
  refine hcall.mono ?_
  rintro e w4 ⟨at1, rfl, hI, hb4⟩
  unfold refV
  have hbw := hb0.trans (hb4.mono hb0.size)
  have hs4 := hb4.size
  have k1 : w4.heap[w.heap.size + 1 + 1]? = _ := (hb4.block (w.heap.size + 1 + 1) (by omega)).trans hR0
  have m1 : (w4.alloc (.cells #[.slice a B.length cap, .int .i64 (at1 : Int), .int .i64 (st.2 : Int)] 42)).heap[w.heap.size + 1 + 1]? = _ := (Below.heap_alloc _ _ _ (by omega)).trans k1
  obtain ⟨q0, q1, q2⟩ := three_cells m1
  obtain ⟨z0, z1, z2⟩ := three_soft m1
  have HM := hide_it m1
  have HBW := hide_it (hbw.alloc (by omega) (.cells #[.slice a B.length cap, .int .i64 (at1 : Int), .int .i64 (st.2 : Int)] 42))
  clear k1 m1 hR0 hcall hbw hb4 hb0
  go_wp2_with fail
  go_region
  all_goals go_wp2_with fail
  have g5 := set3 HM.out (.slice a B.length cap) (.int .i64 (at1 : Int)) (.int .i64 (st.2 : Int))
  obtain ⟨v0, v1, v2⟩ := three_cells g5
  refine bodyPost_ret (v := .tuple #[.int .u64 ((u64Of n : Nat) : Int), .slice none 0 0, .agg #[.slice a B.length cap, .int .i64 (at1 : Int), .int .i64 (st.2 : Int)]]) (by simp [results, Try.results24, go_sem, v0, v1, v2]) rfl ?_
  have b5 := (below3 HBW.out (show w.heap.size ≤ w.heap.size + 1 + 1 by omega) (.slice a B.length cap) (.int .i64 (at1 : Int)) (.int .i64 (st.2 : Int))).drew
  exact ⟨at1, none, 0, rfl, .inl rfl, fun _ => ⟨rfl, rfl⟩, h.again hI b5, b5⟩

set_option maxRecDepth 100000 in
set_option maxHeartbeats 1000000 in
theorem told5 (a : Option Addr) (B : List Nat) (cap at_ : Nat) (low high most : Int) (s : List Nat × Nat) (w : World) (h : RefIs w a B cap at_ s) (hm1 : -9223372036854775808 ≤ most) (hm2 : most ≤ 9223372036854775807) :
    Calls Try.prog 24 #[refV a B.length cap at_ s.2, .agg #[.int .i64 5, .int .i64 low, .int .i64 high, .int .i64 most]] w fun e w' => Told a B cap w ((0, (rdOf [] (takeCounted most) s).1), (rdOf [] (takeCounted most) s).2) e w' := by
  have hb0 := told_below w a B.length cap at_ s.2 5 low high most
  have hs0 := told_size w a B.length cap at_ s.2 5 low high most
  have hR0 := told_res w a B.length cap at_ s.2 5 low high most
  have hcall := rbytes_any a B cap at_ most s _ (h.below hb0) hm1 hm2
  generalize rdOf [] (takeCounted most) s = x at *
  obtain ⟨p, st⟩ := x
  clear hm1 hm2
  unfold refV at hcall ⊢
  go_enter Try.func24, Try.ntmps24
  go_wp2_with fail
  refine hcall.mono ?_
  rintro e w4 ⟨at1, a4, c4, rfl, hr4, hn4, hI, hb4⟩
  unfold refV
  have hbw := hb0.trans (hb4.mono hb0.size)
  have hs4 := hb4.size
  have k1 : w4.heap[w.heap.size + 1 + 1]? = _ := (hb4.block (w.heap.size + 1 + 1) (by omega)).trans hR0
  have m1 : (w4.alloc (.cells #[.slice a B.length cap, .int .i64 (at1 : Int), .int .i64 (st.2 : Int)] 42)).heap[w.heap.size + 1 + 1]? = _ := (Below.heap_alloc _ _ _ (by omega)).trans k1
  obtain ⟨q0, q1, q2⟩ := three_cells m1
  obtain ⟨z0, z1, z2⟩ := three_soft m1
  have HM := hide_it m1
  have HR4 := hide_it (hr4.below ((Below.refl _ _).alloc (Nat.le_refl _) (.cells #[.slice a B.length cap, .int .i64 (at1 : Int), .int .i64 (st.2 : Int)] 42)))
  have HBW := hide_it (hbw.alloc (by omega) (.cells #[.slice a B.length cap, .int .i64 (at1 : Int), .int .i64 (st.2 : Int)] 42))
  have HN4 := hide_it hn4
  clear k1 m1 hR0 hcall hbw hb4 hb0 hr4 hn4
  go_wp2_with fail
  go_region
  all_goals go_wp2_with fail
  have g5 := set3 HM.out (.slice a B.length cap) (.int .i64 (at1 : Int)) (.int .i64 (st.2 : Int))
  obtain ⟨v0, v1, v2⟩ := three_cells g5
  refine bodyPost_ret (v := .tuple #[.int .u64 0, .slice a4 p.length c4, .agg #[.slice a B.length cap, .int .i64 (at1 : Int), .int .i64 (st.2 : Int)]]) (by simp [results, Try.results24, go_sem, v0, v1, v2]) rfl ?_
  have b5 := (below3 HBW.out (show w.heap.size ≤ w.heap.size + 1 + 1 by omega) (.slice a B.length cap) (.int .i64 (at1 : Int)) (.int .i64 (st.2 : Int))).drew
  have hr5 := (HR4.out.far HM.out (ref_no8 _ _ _ _ _) (grown3 _ (w.heap.size + 1 + 1) (.slice a B.length cap) (.int .i64 (at1 : Int)) (.int .i64 (st.2 : Int)))).below (Below.refl _ _).drew
  exact ⟨at1, a4, c4, rfl, hr5, HN4.out, h.again hI b5, b5⟩

set_option maxRecDepth 100000 in
set_option maxHeartbeats 1000000 in
theorem told6 (a : Option Addr) (B : List Nat) (cap at_ : Nat) (low high most : Int) (s : List Nat × Nat) (w : World) (h : RefIs w a B cap at_ s) (hm1 : -9223372036854775808 ≤ most) (hm2 : most ≤ 9223372036854775807) :
    Calls Try.prog 24 #[refV a B.length cap at_ s.2, .agg #[.int .i64 6, .int .i64 low, .int .i64 high, .int .i64 most]] w fun e w' => Told a B cap w ((0, (rdOf [] (takeCounted most) s).1), (rdOf [] (takeCounted most) s).2) e w' := by
  have hb0 := told_below w a B.length cap at_ s.2 6 low high most
  have hs0 := told_size w a B.length cap at_ s.2 6 low high most
  have hR0 := told_res w a B.length cap at_ s.2 6 low high most
  have hcall := rbytes_any a B cap at_ most s _ (h.below hb0) hm1 hm2
  generalize rdOf [] (takeCounted most) s = x at *
  obtain ⟨p, st⟩ := x
  clear hm1 hm2
  unfold refV at hcall ⊢
  go_enter Try.func24, Try.ntmps24
  go_wp2_with fail
  refine hcall.mono ?_
  rintro e w4 ⟨at1, a4, c4, rfl, hr4, hn4, hI, hb4⟩
  unfold refV
  have hbw := hb0.trans (hb4.mono hb0.size)
  have hs4 := hb4.size
  have k1 : w4.heap[w.heap.size + 1 + 1]? = _ := (hb4.block (w.heap.size + 1 + 1) (by omega)).trans hR0
  have m1 : (w4.alloc (.cells #[.slice a B.length cap, .int .i64 (at1 : Int), .int .i64 (st.2 : Int)] 42)).heap[w.heap.size + 1 + 1]? = _ := (Below.heap_alloc _ _ _ (by omega)).trans k1
  obtain ⟨q0, q1, q2⟩ := three_cells m1
  obtain ⟨z0, z1, z2⟩ := three_soft m1
  have HM := hide_it m1
  have HR4 := hide_it (hr4.below ((Below.refl _ _).alloc (Nat.le_refl _) (.cells #[.slice a B.length cap, .int .i64 (at1 : Int), .int .i64 (st.2 : Int)] 42)))
  have HBW := hide_it (hbw.alloc (by omega) (.cells #[.slice a B.length cap, .int .i64 (at1 : Int), .int .i64 (st.2 : Int)] 42))
  have HN4 := hide_it hn4
  clear k1 m1 hR0 hcall hbw hb4 hb0 hr4 hn4
  go_wp2_with fail
  go_region
  all_goals go_wp2_with fail
  have g5 := set3 HM.out (.slice a B.length cap) (.int .i64 (at1 : Int)) (.int .i64 (st.2 : Int))
  obtain ⟨v0, v1, v2⟩ := three_cells g5
  refine bodyPost_ret (v := .tuple #[.int .u64 0, .slice a4 p.length c4, .agg #[.slice a B.length cap, .int .i64 (at1 : Int), .int .i64 (st.2 : Int)]]) (by simp [results, Try.results24, go_sem, v0, v1, v2]) rfl ?_
  have b5 := (below3 HBW.out (show w.heap.size ≤ w.heap.size + 1 + 1 by omega) (.slice a B.length cap) (.int .i64 (at1 : Int)) (.int .i64 (st.2 : Int))).drew
  have hr5 := (HR4.out.far HM.out (ref_no8 _ _ _ _ _) (grown3 _ (w.heap.size + 1 + 1) (.slice a B.length cap) (.int .i64 (at1 : Int)) (.int .i64 (st.2 : Int)))).below (Below.refl _ _).drew
  exact ⟨at1, a4, c4, rfl, hr5, HN4.out, h.again hI b5, b5⟩

set_option maxRecDepth 100000 in
set_option maxHeartbeats 1000000 in
theorem told8 (a : Option Addr) (B : List Nat) (cap at_ : Nat) (low high most : Int) (s : List Nat × Nat) (w : World) (h : RefIs w a B cap at_ s) :
    Calls Try.prog 24 #[refV a B.length cap at_ s.2, .agg #[.int .i64 8, .int .i64 low, .int .i64 high, .int .i64 most]] w fun e w' => Told a B cap w ((u64Of (s.2 : Int), []), s) e w' := by
  have hw := u64_wrap (s.2 : Int)
  unfold refV
  go_enter Try.func24, Try.ntmps24
  go_wp2_with fail
  go_region
  all_goals go_wp2_with fail
  refine bodyPost_ret (v := .tuple #[.int .u64 ((u64Of (s.2 : Int) : Nat) : Int), .slice none 0 0, .agg #[.slice a B.length cap, .int .i64 (at_ : Int), .int .i64 (s.2 : Int)]]) (by simp [results, Try.results24, go_sem]) rfl ?_
  have hb : ∀ x y z : Obj, Below w.heap.size w (((w.alloc x).alloc y).alloc z).drew := fun x y z => ((((Below.refl _ _).alloc (Nat.le_refl _) x).alloc (by simp) y).alloc (by simp; omega) z).drew
  exact ⟨at_, none, 0, rfl, .inl rfl, fun _ => ⟨rfl, rfl⟩, h.below (hb _ _ _), hb _ _ _⟩

set_option maxRecDepth 100000 in
set_option maxHeartbeats 1000000 in
theorem toldX (a : Option Addr) (B : List Nat) (cap at_ : Nat) (k low high most : Int) (s : List Nat × Nat) (w : World) (h : RefIs w a B cap at_ s) (h0 : k ≠ 0) (h1 : k ≠ 1) (h2 : k ≠ 2) (h3 : k ≠ 3) (h4 : k ≠ 4) (h5 : k ≠ 5) (h6 : k ≠ 6) (h7 : k ≠ 7) (h8 : k ≠ 8) (h9 : k ≠ 9) :
    Calls Try.prog 24 #[refV a B.length cap at_ s.2, .agg #[.int .i64 k, .int .i64 low, .int .i64 high, .int .i64 most]] w fun e w' => Told a B cap w ((0, []), s) e w' := by
  have d0 : (k == 0) = false := by simpa using h0
  have d1 : (k == 1) = false := by simpa using h1
  have d2 : (k == 2) = false := by simpa using h2
  have d3 : (k == 3) = false := by simpa using h3
  have d4 : (k == 4) = false := by simpa using h4
  have d5 : (k == 5) = false := by simpa using h5
  have d6 : (k == 6) = false := by simpa using h6
  have d7 : (k == 7) = false := by simpa using h7
  have d8 : (k == 8) = false := by simpa using h8
  have d9 : (k == 9) = false := by simpa using h9
  clear h0 h1 h2 h3 h4 h5 h6 h7 h8 h9
  unfold refV
  go_enter Try.func24, Try.ntmps24
  go_wp2_with fail
  go_region
  all_goals go_wp2_with fail
  refine bodyPost_ret (v := .tuple #[.int .u64 0, .slice none 0 0, .agg #[.slice a B.length cap, .int .i64 (at_ : Int), .int .i64 (s.2 : Int)]]) (by simp [results, Try.results24, go_sem]) rfl ?_
  have hb : ∀ x y z : Obj, Below w.heap.size w (((w.alloc x).alloc y).alloc z).drew := fun x y z => ((((Below.refl _ _).alloc (Nat.le_refl _) x).alloc (by simp) y).alloc (by simp; omega) z).drew
  exact ⟨at_, none, 0, rfl, .inl rfl, fun _ => ⟨rfl, rfl⟩, h.below (hb _ _ _), hb _ _ _⟩

set_option maxRecDepth 100000 in
set_option maxHeartbeats 1000000 in
theorem told7 (a : Option Addr) (B : List Nat) (cap at_ : Nat) (low high most : Int) (s : List Nat × Nat) (w : World) (h : RefIs w a B cap at_ s) :
    Calls Try.prog 24 #[refV a B.length cap at_ s.2, .agg #[.int .i64 7, .int .i64 low, .int .i64 high, .int .i64 most]] w fun e w' => Told a B cap w ((u64Of (s.1.length : Int), []), s) e w' := by
  have hb0 := told_below w a B.length cap at_ s.2 7 low high most
  have hs0 := told_size w a B.length cap at_ s.2 7 low high most
  have hR0 := told_res w a B.length cap at_ s.2 7 low high most
  have hTS := told_cells w a B.length cap at_ s.2 7 low high most
  have hcall : ∀ W, RefIs W a B cap at_ s → Calls Try.prog 28 #[.agg #[.slice a B.length cap, .int .i64 (at_ : Int), .int .i64 (s.2 : Int)]] W (fun e w' => e = .returned (.int .i64 (s.1.length : Int)) ∧ Below W.heap.size W w') := fun W hW => rleft_any a B cap at_ s W hW
  generalize (s.1.length : Int) = n at *
  have hw := u64_wrap n
  obtain ⟨U0, hU0⟩ : ∃ U0, U0 = ((w.alloc (.cells #[.slice a B.length cap, .int .i64 (at_ : Int), .int .i64 (s.2 : Int)] 42)).alloc (.cells #[.int .i64 7, .int .i64 low, .int .i64 high, .int .i64 most] 48)) := ⟨_, rfl⟩
  have hbU : Below w.heap.size w U0 := by rw [hU0]; exact ((Below.refl _ _).alloc (Nat.le_refl _) _).alloc (by simp) _
  have hsU : U0.heap.size = w.heap.size + 1 + 1 := by rw [hU0]; simp
  have hTU : TS U0 w.heap.size (.slice a B.length cap) (.int .i64 (at_ : Int)) (.int .i64 (s.2 : Int)) (.int .i64 7) (toldW w a B.length cap at_ s.2 7 low high most).drew := ⟨by rw [hU0]; exact ((Below.refl _ _).alloc (Nat.le_refl _) _).drew, hTS.2⟩
  clear hU0 hTS hs0
  unfold refV
  go_enter Try.func24, Try.ntmps24
  go_wp2_with fail
  refine wp_region_held_drew (S := (fun w' => TS U0 w.heap.size (.slice a B.length cap) (.int .i64 (at_ : Int)) (.int .i64 (s.2 : Int)) (.int .i64 7) w' ∧ ∃ x y z, w'.heap[w.heap.size + 1 + 1]? = some (.cells #[x, y, z] 42 (0, 0)))) (by kernel_rfl) ?_ (fun hHeld => ?_)
  · exact ⟨hTU, _, _, _, hR0⟩
  refine take_on (i := 0) (v := ?_) rfl rfl (by kernel_rfl) (by kernel_rfl) (by kernel_rfl) (fun _ _ _ h => h) rfl ?_ hHeld ?_
  rotate_left
  · (intro wq hSq; obtain ⟨⟨_, hq0, hq1, hq2, hq3⟩, _⟩ := hSq; go_simp <;> first | with_reducible rfl | rfl)
  simp only [Act.put, List.setIfInBounds_toArray, List.set_cons_zero, List.set_cons_succ]
  refine take_on (i := 3) (v := ?_) rfl rfl (by kernel_rfl) (by kernel_rfl) (by kernel_rfl) (fun _ _ _ h => h) rfl ?_ hHeld ?_
  rotate_left
  · (intro wq hSq; obtain ⟨⟨_, hq0, hq1, hq2, hq3⟩, _⟩ := hSq; go_simp <;> first | with_reducible rfl | rfl)
  simp only [Act.put, List.setIfInBounds_toArray, List.set_cons_zero, List.set_cons_succ]
  refine take_one (i := 1) rfl (by kernel_rfl) (fun K hK => ?_)
  go_simp
  refine (hcall _ (h.below (hbU.trans (hHeld.1.1.mono hbU.size)))).mono ?_; rintro e w4 ⟨rfl, hb4⟩; obtain ⟨x4, y4, z4, hx4⟩ := hHeld.2; have hj : w4.heap[w.heap.size + 1 + 1]? = _ := (hb4.block _ (Array.getElem?_eq_some_iff.1 hx4).1).trans hx4; have hT4 := hHeld.1.next (by omega) hb4
  try go_wp2_with fail
  refine hK.out _ _ ?_ (fun hHeld => ?_)
  · exact ⟨hT4, x4, y4, z4, hj⟩
  clear hK K
  try simp only [Act.put, List.setIfInBounds_toArray, List.set_cons_zero, List.set_cons_succ]
  refine take_on (i := 2) (v := ?_) rfl rfl (by kernel_rfl) (by kernel_rfl) (by kernel_rfl) (fun _ _ _ h => h) rfl ?_ hHeld ?_
  rotate_left
  · (intro wq hSq; obtain ⟨⟨_, hq0, hq1, hq2, hq3⟩, _⟩ := hSq; go_simp <;> first | with_reducible rfl | rfl)
  simp only [Act.put, List.setIfInBounds_toArray, List.set_cons_zero, List.set_cons_succ]
  refine take_on (i := 4) (v := ?_) rfl rfl (by kernel_rfl) (by kernel_rfl) (by kernel_rfl) (fun _ _ _ h => h) rfl ?_ hHeld ?_
  rotate_left
  · (intro wq hSq; obtain ⟨⟨_, hq0, hq1, hq2, hq3⟩, _⟩ := hSq; go_simp <;> first | with_reducible rfl | rfl)
  simp only [Act.put, List.setIfInBounds_toArray, List.set_cons_zero, List.set_cons_succ]
  refine take_on (i := 5) (v := ?_) rfl rfl (by kernel_rfl) (by kernel_rfl) (by kernel_rfl) (fun _ _ _ h => h) rfl ?_ hHeld ?_
  rotate_left
  · (intro wq hSq; obtain ⟨⟨_, hq0, hq1, hq2, hq3⟩, _⟩ := hSq; go_simp <;> first | with_reducible rfl | rfl)
  simp only [Act.put, List.setIfInBounds_toArray, List.set_cons_zero, List.set_cons_succ]
  refine take_one (i := 6) rfl (by kernel_rfl) (fun K hK => ?_)
  obtain ⟨c0, c1, c2⟩ := three_cells hj; obtain ⟨q0, q1, q2⟩ := three_soft hj; have hT5 := hT4; obtain ⟨_, t0, t1, t2, _⟩ := hT5; go_simp
  refine hK.out _ _ ?_ (fun hHeld => ?_)
  · exact ⟨((hT4.set (by omega) (by omega) _ _).set (by omega) (by omega) _ _).set (by omega) (by omega) _ _, _, _, _, set3 hj _ _ _⟩
  clear hK K
  try simp only [Act.put, List.setIfInBounds_toArray, List.set_cons_zero, List.set_cons_succ]
  refine wpAnyH_done (by kernel_rfl) ?_ _
  go_wp2_with fail
  have g5 := set3 hj (.slice a B.length cap) (.int .i64 (at_ : Int)) (.int .i64 (s.2 : Int))
  obtain ⟨v0, v1, v2⟩ := three_cells g5
  have b5 := hbU.trans (hHeld.1.1.mono hbU.size)
  refine bodyPost_ret (v := .tuple #[.int .u64 ((u64Of n : Nat) : Int), .slice none 0 0, .agg #[.slice a B.length cap, .int .i64 (at_ : Int), .int .i64 (s.2 : Int)]]) (by simp [results, Try.results24, go_sem, v0, v1, v2]) rfl ?_
  exact ⟨at_, none, 0, rfl, .inl rfl, fun _ => ⟨rfl, rfl⟩, h.below b5, b5⟩

set_option maxRecDepth 100000 in
set_option maxHeartbeats 1000000 in
theorem told9 (a : Option Addr) (B : List Nat) (cap at_ : Nat) (low high most : Int) (s : List Nat × Nat) (w : World) (h : RefIs w a B cap at_ s) :
    Calls Try.prog 24 #[refV a B.length cap at_ s.2, .agg #[.int .i64 9, .int .i64 low, .int .i64 high, .int .i64 most]] w fun e w' => Told a B cap w ((u64Of ((endOf s.1 s.2 : Nat) : Int), []), s) e w' := by
  have hb0 := told_below w a B.length cap at_ s.2 9 low high most
  have hs0 := told_size w a B.length cap at_ s.2 9 low high most
  have hR0 := told_res w a B.length cap at_ s.2 9 low high most
  have hTS := told_cells w a B.length cap at_ s.2 9 low high most
  have hcall : ∀ W, RefIs W a B cap at_ s → Calls Try.prog 30 #[.agg #[.slice a B.length cap, .int .i64 (at_ : Int), .int .i64 (s.2 : Int)]] W (fun e w' => e = .returned (.int .i64 ((endOf s.1 s.2 : Nat) : Int)) ∧ Below W.heap.size W w') := fun W hW => rend_any a B cap at_ s W hW
  generalize ((endOf s.1 s.2 : Nat) : Int) = n at *
  have hw := u64_wrap n
  obtain ⟨U0, hU0⟩ : ∃ U0, U0 = ((w.alloc (.cells #[.slice a B.length cap, .int .i64 (at_ : Int), .int .i64 (s.2 : Int)] 42)).alloc (.cells #[.int .i64 9, .int .i64 low, .int .i64 high, .int .i64 most] 48)) := ⟨_, rfl⟩
  have hbU : Below w.heap.size w U0 := by rw [hU0]; exact ((Below.refl _ _).alloc (Nat.le_refl _) _).alloc (by simp) _
  have hsU : U0.heap.size = w.heap.size + 1 + 1 := by rw [hU0]; simp
  have hTU : TS U0 w.heap.size (.slice a B.length cap) (.int .i64 (at_ : Int)) (.int .i64 (s.2 : Int)) (.int .i64 9) (toldW w a B.length cap at_ s.2 9 low high most).drew := ⟨by rw [hU0]; exact ((Below.refl _ _).alloc (Nat.le_refl _) _).drew, hTS.2⟩
  clear hU0 hTS hs0
  unfold refV
  go_enter Try.func24, Try.ntmps24
  go_wp2_with fail
  refine wp_region_held_drew (S := (fun w' => TS U0 w.heap.size (.slice a B.length cap) (.int .i64 (at_ : Int)) (.int .i64 (s.2 : Int)) (.int .i64 9) w' ∧ ∃ x y z, w'.heap[w.heap.size + 1 + 1]? = some (.cells #[x, y, z] 42 (0, 0)))) (by kernel_rfl) ?_ (fun hHeld => ?_)
  · exact ⟨hTU, _, _, _, hR0⟩
  refine take_on (i := 0) (v := ?_) rfl rfl (by kernel_rfl) (by kernel_rfl) (by kernel_rfl) (fun _ _ _ h => h) rfl ?_ hHeld ?_
  rotate_left
  · (intro wq hSq; obtain ⟨⟨_, hq0, hq1, hq2, hq3⟩, _⟩ := hSq; go_simp <;> first | with_reducible rfl | rfl)
  simp only [Act.put, List.setIfInBounds_toArray, List.set_cons_zero, List.set_cons_succ]
  refine take_on (i := 3) (v := ?_) rfl rfl (by kernel_rfl) (by kernel_rfl) (by kernel_rfl) (fun _ _ _ h => h) rfl ?_ hHeld ?_
  rotate_left
  · (intro wq hSq; obtain ⟨⟨_, hq0, hq1, hq2, hq3⟩, _⟩ := hSq; go_simp <;> first | with_reducible rfl | rfl)
  simp only [Act.put, List.setIfInBounds_toArray, List.set_cons_zero, List.set_cons_succ]
  refine take_one (i := 1) rfl (by kernel_rfl) (fun K hK => ?_)
  go_simp
  refine (hcall _ (h.below (hbU.trans (hHeld.1.1.mono hbU.size)))).mono ?_; rintro e w4 ⟨rfl, hb4⟩; obtain ⟨x4, y4, z4, hx4⟩ := hHeld.2; have hj : w4.heap[w.heap.size + 1 + 1]? = _ := (hb4.block _ (Array.getElem?_eq_some_iff.1 hx4).1).trans hx4; have hT4 := hHeld.1.next (by omega) hb4
  try go_wp2_with fail
  refine hK.out _ _ ?_ (fun hHeld => ?_)
  · exact ⟨hT4, x4, y4, z4, hj⟩
  clear hK K
  try simp only [Act.put, List.setIfInBounds_toArray, List.set_cons_zero, List.set_cons_succ]
  refine take_on (i := 2) (v := ?_) rfl rfl (by kernel_rfl) (by kernel_rfl) (by kernel_rfl) (fun _ _ _ h => h) rfl ?_ hHeld ?_
  rotate_left
  · (intro wq hSq; obtain ⟨⟨_, hq0, hq1, hq2, hq3⟩, _⟩ := hSq; go_simp <;> first | with_reducible rfl | rfl)
  simp only [Act.put, List.setIfInBounds_toArray, List.set_cons_zero, List.set_cons_succ]
  refine take_on (i := 4) (v := ?_) rfl rfl (by kernel_rfl) (by kernel_rfl) (by kernel_rfl) (fun _ _ _ h => h) rfl ?_ hHeld ?_
  rotate_left
  · (intro wq hSq; obtain ⟨⟨_, hq0, hq1, hq2, hq3⟩, _⟩ := hSq; go_simp <;> first | with_reducible rfl | rfl)
  simp only [Act.put, List.setIfInBounds_toArray, List.set_cons_zero, List.set_cons_succ]
  refine take_on (i := 5) (v := ?_) rfl rfl (by kernel_rfl) (by kernel_rfl) (by kernel_rfl) (fun _ _ _ h => h) rfl ?_ hHeld ?_
  rotate_left
  · (intro wq hSq; obtain ⟨⟨_, hq0, hq1, hq2, hq3⟩, _⟩ := hSq; go_simp <;> first | with_reducible rfl | rfl)
  simp only [Act.put, List.setIfInBounds_toArray, List.set_cons_zero, List.set_cons_succ]
  refine take_one (i := 6) rfl (by kernel_rfl) (fun K hK => ?_)
  obtain ⟨c0, c1, c2⟩ := three_cells hj; obtain ⟨q0, q1, q2⟩ := three_soft hj; have hT5 := hT4; obtain ⟨_, t0, t1, t2, _⟩ := hT5; go_simp
  refine hK.out _ _ ?_ (fun hHeld => ?_)
  · exact ⟨((hT4.set (by omega) (by omega) _ _).set (by omega) (by omega) _ _).set (by omega) (by omega) _ _, _, _, _, set3 hj _ _ _⟩
  clear hK K
  try simp only [Act.put, List.setIfInBounds_toArray, List.set_cons_zero, List.set_cons_succ]
  refine wpAnyH_done (by kernel_rfl) ?_ _
  go_wp2_with fail
  have g5 := set3 hj (.slice a B.length cap) (.int .i64 (at_ : Int)) (.int .i64 (s.2 : Int))
  obtain ⟨v0, v1, v2⟩ := three_cells g5
  have b5 := hbU.trans (hHeld.1.1.mono hbU.size)
  refine bodyPost_ret (v := .tuple #[.int .u64 ((u64Of n : Nat) : Int), .slice none 0 0, .agg #[.slice a B.length cap, .int .i64 (at_ : Int), .int .i64 (s.2 : Int)]]) (by simp [results, Try.results24, go_sem, v0, v1, v2]) rfl ?_
  exact ⟨at_, none, 0, rfl, .inl rfl, fun _ => ⟨rfl, rfl⟩, h.below b5, b5⟩

theorem told_any (a : Option Addr) (B : List Nat) (cap at_ : Nat) (k low high most : Int) (s : List Nat × Nat) (w : World) (h : RefIs w a B cap at_ s) (hl1 : -9223372036854775808 ≤ low) (hl2 : low ≤ 9223372036854775807) (hh1 : -9223372036854775808 ≤ high) (hh2 : high ≤ 9223372036854775807) (hm1 : -9223372036854775808 ≤ most) (hm2 : most ≤ 9223372036854775807) :
    Calls Try.prog 24 #[refV a B.length cap at_ s.2, .agg #[.int .i64 k, .int .i64 low, .int .i64 high, .int .i64 most]] w fun e w' => Told a B cap w (stepOf k low high most s) e w' := by
  by_cases k0 : k = 0
  · subst k0; exact told0 a B cap at_ low high most s w h
  by_cases k1 : k = 1
  · subst k1; exact told1 a B cap at_ low high most s w h
  by_cases k2 : k = 2
  · subst k2; exact told2 a B cap at_ low high most s w h
  by_cases k3 : k = 3
  · subst k3; exact told3 a B cap at_ low high most s w h
  by_cases k4 : k = 4
  · subst k4; exact told4 a B cap at_ low high most s w h hl1 hl2 hh1 hh2
  by_cases k5 : k = 5
  · subst k5; exact told5 a B cap at_ low high most s w h hm1 hm2
  by_cases k6 : k = 6
  · subst k6; exact told6 a B cap at_ low high most s w h hm1 hm2
  by_cases k7 : k = 7
  · subst k7; exact told7 a B cap at_ low high most s w h
  by_cases k8 : k = 8
  · subst k8; exact told8 a B cap at_ low high most s w h
  by_cases k9 : k = 9
  · subst k9; exact told9 a B cap at_ low high most s w h
  have e : stepOf k low high most s = ((0, []), s) := by unfold stepOf; simp [k0, k1, k2, k3, k4, k5, k6, k7, k8, k9]
  rw [e]
  exact toldX a B cap at_ k low high most s w h k0 k1 k2 k3 k4 k5 k6 k7 k8 k9

end Go.Proofs.Ytfhinodieghklaa
