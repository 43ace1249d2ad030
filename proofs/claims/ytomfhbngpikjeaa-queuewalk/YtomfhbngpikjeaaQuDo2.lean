/- One call of both queues: Push. -/
import Derived.Test.YtomfhbngpikjeaaQuDo1
namespace Go.Proofs.Ytomfhbngpikjeaa
open Go.RowKit

theorem did_end {w W w5 w6 : World} {b g g' most base N : Nat} {a4 : Option Addr} {c4 : Nat} {ys xs : List ByteArray} {v0 : Value} (h0 : Both w b g most base v0 xs) (hbase : base ≤ w.heap.size) (hWs : W.heap.size = w.heap.size + 1 + 1 + 1) (hW : Below w.heap.size w W)
    (h5 : Below W.heap.size W w5) (how : OwS w5 W.heap.size (.slice a4 N c4) ys) (ho : Only b g w5 w6) (hg : g' = g ∨ g' = b ∨ w5.heap.size ≤ g') (hq : QuS w6 b g' most ys) :
    Did w ((w6.setCell ⟨w.heap.size + 1 + 1, 0, none⟩ (.int .i64 (most : Int))).setCell ⟨w.heap.size + 1 + 1, 1, none⟩ (.slice a4 N c4)) b g most base v0 ys (.returned (.tuple #[.bool true, .agg #[.int .i64 (most : Int), .slice a4 N c4]])) := by
  obtain ⟨hbl, hgl⟩ := h0.qu.lt
  have s5 := h5.size
  have sW := hW.size
  have hin := how.inside
  have hg2 : g' ≠ w.heap.size + 1 + 1 := by rcases hg with e | e | e <;> omega
  have hb2 : b ≠ w.heap.size + 1 + 1 := by omega
  have hx : ∀ k, k ≠ w.heap.size + 1 + 1 → ((w6.setCell ⟨w.heap.size + 1 + 1, 0, none⟩ (.int .i64 (most : Int))).setCell ⟨w.heap.size + 1 + 1, 1, none⟩ (.slice a4 N c4)).heap[k]? = w6.heap[k]? := fun k hk =>
    (Below.heap_setCell _ _ _ k (by simpa using hk)).trans (Below.heap_setCell _ _ _ k (by simpa using hk))
  refine ⟨_, g', rfl, by rcases hg with e | e | e; exact .inl e; exact .inr (.inl e); exact .inr (.inr (by omega)), ⟨hq.keep (hx b hb2) (hx g' hg2), ?_, ?_⟩, ?_, fun j hj => .inr (by have := how.ge hj; omega)⟩
  · refine OwS.mono (how.heap fun j hj => ?_) (by omega : base ≤ W.heap.size)
    have h1 := how.ge hj
    have h2 := hin j hj
    rw [hx j (by omega), ho.block j h2 (by omega) (by omega)]
  · intro j hj
    have h1 := how.ge hj
    have h2 := hin j hj
    exact ⟨by omega, by rcases hg with e | e | e <;> omega⟩
  · have z1 : Only b g w w5 := Only.of_below (hW.trans (h5.mono (by omega)))
    have z2 := z1.trans ho (.inl rfl)
    exact (z2.setN (c := w.heap.size + 1 + 1) (by omega) 0 _).setN (c := w.heap.size + 1 + 1) (by omega) 1 _
theorem Did.drew {w w' : World} {b g most base : Nat} {v : Value} {xs : List ByteArray} {e : Ending} (h : Did w w' b g most base v xs e) : Did w w'.drew b g most base v xs e := by
  obtain ⟨v', g', he, hg, hb, ho, hn⟩ := h
  exact ⟨v', g', he, hg, ⟨hb.qu.keep rfl rfl, hb.ow, hb.off⟩, ho.drew, hn⟩
theorem did_same {w W w6 : World} {b g most base N : Nat} {a4 : Option Addr} {c4 : Nat} {xs : List ByteArray} (h0 : Both w b g most base (.slice a4 N c4) xs) (hWs : W.heap.size = w.heap.size + 1 + 1 + 1) (hW : Below w.heap.size w W) (h6 : Below W.heap.size W w6) :
    Did w ((w6.setCell ⟨w.heap.size + 1 + 1, 0, none⟩ (.int .i64 (most : Int))).setCell ⟨w.heap.size + 1 + 1, 1, none⟩ (.slice a4 N c4)) b g most base (.slice a4 N c4) xs (.returned (.tuple #[.bool true, .agg #[.int .i64 (most : Int), .slice a4 N c4]])) := by
  have s6 := h6.size
  have z : Below w.heap.size w ((w6.setCell ⟨w.heap.size + 1 + 1, 0, none⟩ (.int .i64 (most : Int))).setCell ⟨w.heap.size + 1 + 1, 1, none⟩ (.slice a4 N c4)) :=
    ((hW.trans (h6.mono (by omega))).setCell (p := ⟨w.heap.size + 1 + 1, 0, none⟩) (by simp; omega) _).setCell (p := ⟨w.heap.size + 1 + 1, 1, none⟩) (by simp; omega) _
  exact ⟨_, g, rfl, .inl rfl, h0.below z, Only.of_below z, fun _ _ => .inl rfl⟩

set_option maxRecDepth 100000 in
set_option maxHeartbeats 2000000 in
theorem does_push (b g most base : Nat) (v : Value) (xs : List ByteArray) (s : ByteArray) (w : World) (h : Both w b g most base v xs) (hbase : base ≤ w.heap.size) (hl : xs.length < most) :
    Calls Try.prog 15 #[.pointer (some ⟨b, 0, none⟩), .agg #[.int .i64 (most : Int), v], .agg #[.int .i64 0, .string s]] w fun e w' => Did w w' b g most base v (xs ++ [s]) e := by
  have hlen := h.qu.len
  obtain ⟨a, cap, rfl, hr, hcap, hnil⟩ := h.shape
  have hpre := pre_made w most (.slice a xs.length cap) 0 s
  obtain ⟨W, hW⟩ : ∃ W, W = (((w.alloc (.cells #[.int .i64 (most : Int), .slice a xs.length cap] 24)).alloc (.cells #[.int .i64 0, .string s] 38)).alloc (.cells #[.int .i64 0, .slice none 0 0] 24)) := ⟨_, rfl⟩
  rw [← hW] at hpre
  have hBW := h.below hpre.below
  have hrW := hr.below hpre.below
  have c0 := cell_of_row _ _ 0 _ _ _ hpre.want
  have c1 := cell_of_row _ _ 1 _ _ _ hpre.want
  have c2 := cell_of_row _ _ 0 _ _ _ hpre.step
  have c3 := cell_of_row _ _ 1 _ _ _ hpre.step
  simp only [List.getElem?_toArray, List.getElem?_cons_zero, List.getElem?_cons_succ] at c0 c1 c2 c3
  have hrp := rpush_any most a cap xs s W hrW hnil hl hlen.2
  have hsz := hpre.size
  have H := hide_it h
  have HP := hide_it hpre
  have HBW := hide_it hBW
  clear h hpre hBW hr hrW hnil
  go_enter Try.func15, Try.ntmps15
  go_wp2_with fail
  rw [← hW]
  clear hW
  refine hrp.mono ?_
  rintro e w4 ⟨v4, rfl, how4, hb4⟩
  obtain ⟨a4, c4, hv4, _⟩ := how4.row
  obtain ⟨N, hN⟩ : ∃ N, N = (xs ++ [s]).length := ⟨_, rfl⟩
  rw [← hN] at hv4
  subst hv4
  have HO4 := hide_it how4
  have HB4 := hide_it hb4
  have hs4 := hb4.size
  clear how4 hb4 hN hrp c0 c1 c2 c3
  go_wp2_with fail
  obtain ⟨W5, hW5⟩ : ∃ W5, W5 = w4.alloc (.cells #[.int .i64 (most : Int), .slice a4 N c4] 24) := ⟨_, rfl⟩
  have hB5 : Below W.heap.size W W5 := by rw [hW5]; exact HB4.out.alloc hs4 _
  have hn5 : W5.heap[w4.heap.size]? = some (.cells #[.int .i64 (most : Int), .slice a4 N c4] 24 (0, 0)) := by rw [hW5]; exact heap_alloc_new _ _
  have hz5 : W5.heap.size = w4.heap.size + 1 := by rw [hW5]; simp
  have ho5 : OwS W5 W.heap.size (.slice a4 N c4) (xs ++ [s]) := by rw [hW5]; exact HO4.out.below ((Below.refl _ _).alloc (Nat.le_refl _) _)
  rw [← hW5]
  obtain ⟨t8, ht8⟩ : ∃ t8, t8 = w4.heap.size := ⟨_, rfl⟩
  rw [← ht8] at hn5 hz5 hs4 ⊢
  have hbs := HBW.out.qu.lt
  have hbs0 := H.out.qu.lt
  have hp5 := (hB5.block (w.heap.size + 1) (by omega)).trans HP.out.step
  have hr5 := (hB5.block (w.heap.size + 1 + 1) (by omega)).trans HP.out.res
  have hq5 : QuS W5 b g most xs := HBW.out.qu.below hB5
  have hpu := fun q => pushS_any b g most xs s (W5.drewN q) (hq5.keep (by simp) (by simp)) hl
  have hpu1 := hpu 1
  have d3 := cell_of_row _ _ 1 _ _ _ hp5
  have d6 := cell_of_row _ _ 0 _ _ _ hn5
  have d7 := cell_of_row _ _ 1 _ _ _ hn5
  simp only [List.getElem?_toArray, List.getElem?_cons_zero, List.getElem?_cons_succ] at d3 d6 d7
  have HP5 := hide_it hp5
  have HR5 := hide_it hr5
  have HN5 := hide_it hn5
  have HB5 := hide_it hB5
  have HO5 := hide_it ho5
  clear hW5 hp5 hr5 hn5 hB5 ho5 hq5 ht8 hpu
  refine wp_region_held_drew (S := (fun w' => w'.heap[w.heap.size + 1]? = W5.heap[w.heap.size + 1]? ∧ w'.heap[t8]? = W5.heap[t8]?)) (by kernel_rfl) ?_ (fun hHeld => ?_)
  · exact ⟨rfl, rfl⟩
  refine take_on (i := 0) (v := ?_) rfl rfl (by kernel_rfl) (by kernel_rfl) (by kernel_rfl) (fun _ _ _ h => h) rfl ?_ hHeld ?_
  rotate_left
  · (intro wq hSq; have q3 := (World.cell?_of_block (w := W5) (a := ⟨w.heap.size + 1, 1, none⟩) hSq.1).trans d3; have q6 := (World.cell?_of_block (w := W5) (a := ⟨t8, 0, none⟩) hSq.2).trans d6; have q7 := (World.cell?_of_block (w := W5) (a := ⟨t8, 1, none⟩) hSq.2).trans d7; go_simp <;> first | with_reducible rfl | rfl)
  simp only [Act.put, List.setIfInBounds_toArray, List.set_cons_zero, List.set_cons_succ]
  refine take_on (i := 1) (v := ?_) rfl rfl (by kernel_rfl) (by kernel_rfl) (by kernel_rfl) (fun _ _ _ h => h) rfl ?_ hHeld ?_
  rotate_left
  · (intro wq hSq; have q3 := (World.cell?_of_block (w := W5) (a := ⟨w.heap.size + 1, 1, none⟩) hSq.1).trans d3; have q6 := (World.cell?_of_block (w := W5) (a := ⟨t8, 0, none⟩) hSq.2).trans d6; have q7 := (World.cell?_of_block (w := W5) (a := ⟨t8, 1, none⟩) hSq.2).trans d7; go_simp <;> first | with_reducible rfl | rfl)
  simp only [Act.put, List.setIfInBounds_toArray, List.set_cons_zero, List.set_cons_succ]
  refine take_on (i := 2) (v := ?_) rfl rfl (by kernel_rfl) (by kernel_rfl) (by kernel_rfl) (fun _ _ _ h => h) rfl ?_ hHeld ?_
  rotate_left
  · (intro wq hSq; have q3 := (World.cell?_of_block (w := W5) (a := ⟨w.heap.size + 1, 1, none⟩) hSq.1).trans d3; have q6 := (World.cell?_of_block (w := W5) (a := ⟨t8, 0, none⟩) hSq.2).trans d6; have q7 := (World.cell?_of_block (w := W5) (a := ⟨t8, 1, none⟩) hSq.2).trans d7; go_simp <;> first | with_reducible rfl | rfl)
  simp only [Act.put, List.setIfInBounds_toArray, List.set_cons_zero, List.set_cons_succ]
  refine take_on (i := 4) (v := ?_) rfl rfl (by kernel_rfl) (by kernel_rfl) (by kernel_rfl) (fun _ _ _ h => h) rfl ?_ hHeld ?_
  rotate_left
  · (intro wq hSq; have q3 := (World.cell?_of_block (w := W5) (a := ⟨w.heap.size + 1, 1, none⟩) hSq.1).trans d3; have q6 := (World.cell?_of_block (w := W5) (a := ⟨t8, 0, none⟩) hSq.2).trans d6; have q7 := (World.cell?_of_block (w := W5) (a := ⟨t8, 1, none⟩) hSq.2).trans d7; go_simp <;> first | with_reducible rfl | rfl)
  simp only [Act.put, List.setIfInBounds_toArray, List.set_cons_zero, List.set_cons_succ]
  refine take_on (i := 6) (v := ?_) rfl rfl (by kernel_rfl) (by kernel_rfl) (by kernel_rfl) (fun _ _ _ h => h) rfl ?_ hHeld ?_
  rotate_left
  · (intro wq hSq; have q3 := (World.cell?_of_block (w := W5) (a := ⟨w.heap.size + 1, 1, none⟩) hSq.1).trans d3; have q6 := (World.cell?_of_block (w := W5) (a := ⟨t8, 0, none⟩) hSq.2).trans d6; have q7 := (World.cell?_of_block (w := W5) (a := ⟨t8, 1, none⟩) hSq.2).trans d7; go_simp <;> first | with_reducible rfl | rfl)
  simp only [Act.put, List.setIfInBounds_toArray, List.set_cons_zero, List.set_cons_succ]
  refine take_one (i := 3) rfl (by kernel_rfl) (fun K hK => ?_)
  go_simp
  refine hpu1.mono ?_; rintro e w6 ⟨rfl, ⟨g6, hg6, hq6⟩, ho6⟩; have HQ6 := hide_it hq6; have HO6 := hide_it ho6; have HG6 := hide_it hg6; have hr6 := (ho6.block (w.heap.size + 1 + 1) (by simp; omega) (by omega) (by omega)).trans HR5.out; have e0 := cell_of_row _ _ 0 _ _ _ hr6; have e1 := cell_of_row _ _ 1 _ _ _ hr6; have f0 := frozen_of_row _ _ 0 _ _ hr6; have f1 := frozen_of_row _ _ 1 _ _ hr6; simp only [List.getElem?_toArray, List.getElem?_cons_zero, List.getElem?_cons_succ] at e0 e1; clear hq6 ho6 hg6 hr6
  try go_wp2_with fail
  refine hK.out _ _ ?_ (fun hHeld => ?_)
  · exact ⟨(HO6.out.block (w.heap.size + 1) (by simp; omega) (by omega) (by omega)), (HO6.out.block t8 (by simp; omega) (by omega) (by omega))⟩
  clear hK K
  try simp only [Act.put, List.setIfInBounds_toArray, List.set_cons_zero, List.set_cons_succ]
  refine take_on (i := 5) (v := ?_) rfl rfl (by kernel_rfl) (by kernel_rfl) (by kernel_rfl) (fun _ _ _ h => h) rfl ?_ hHeld ?_
  rotate_left
  · (intro wq hSq; have q3 := (World.cell?_of_block (w := W5) (a := ⟨w.heap.size + 1, 1, none⟩) hSq.1).trans d3; have q6 := (World.cell?_of_block (w := W5) (a := ⟨t8, 0, none⟩) hSq.2).trans d6; have q7 := (World.cell?_of_block (w := W5) (a := ⟨t8, 1, none⟩) hSq.2).trans d7; go_simp <;> first | with_reducible rfl | rfl)
  simp only [Act.put, List.setIfInBounds_toArray, List.set_cons_zero, List.set_cons_succ]
  refine take_on (i := 7) (v := ?_) rfl rfl (by kernel_rfl) (by kernel_rfl) (by kernel_rfl) (fun _ _ _ h => h) rfl ?_ hHeld ?_
  rotate_left
  · (intro wq hSq; have q3 := (World.cell?_of_block (w := W5) (a := ⟨w.heap.size + 1, 1, none⟩) hSq.1).trans d3; have q6 := (World.cell?_of_block (w := W5) (a := ⟨t8, 0, none⟩) hSq.2).trans d6; have q7 := (World.cell?_of_block (w := W5) (a := ⟨t8, 1, none⟩) hSq.2).trans d7; go_simp <;> first | with_reducible rfl | rfl)
  simp only [Act.put, List.setIfInBounds_toArray, List.set_cons_zero, List.set_cons_succ]
  refine take_one (i := 8) rfl (by kernel_rfl) (fun K hK => ?_)
  go_simp
  skip
  try go_wp2_with fail
  refine hK.out _ _ ?_ (fun hHeld => ?_)
  · exact ⟨(Below.heap_setCell _ _ _ _ (by simp)).trans ((Below.heap_setCell _ _ _ _ (by simp)).trans hHeld.1), (Below.heap_setCell _ _ _ _ (by simp; omega)).trans ((Below.heap_setCell _ _ _ _ (by simp; omega)).trans hHeld.2)⟩
  clear hK K
  try simp only [Act.put, List.setIfInBounds_toArray, List.set_cons_zero, List.set_cons_succ]
  refine wpAnyH_done (by kernel_rfl) ?_ _
  go_wp2
  refine bodyPost_ret (v := .tuple #[.bool true, .agg #[.int .i64 (most : Int), .slice a4 N c4]]) (by simp [results, Try.results15, go_sem, e0, e1]) rfl ?_
  exact did_end H.out hbase hsz HP.out.below (below_drewN HB5.out 1) (HO5.out.below (below_drewN (Below.refl _ _) 1)) HO6.out (by rcases HG6.out with e | e; exact .inl e; exact .inr (.inr e)) HQ6.out

end Go.Proofs.Ytomfhbngpikjeaa
