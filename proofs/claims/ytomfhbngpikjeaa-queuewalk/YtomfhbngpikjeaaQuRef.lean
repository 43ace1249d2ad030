/- The document's queue, walked. -/
import Derived.Test.YtomfhbngpikjeaaQuRowS
namespace Go.Proofs.Ytomfhbngpikjeaa
open Go.RowKit

set_option maxRecDepth 100000 in
set_option maxHeartbeats 400000 in
theorem rnew_any (most : Int) (w : World) :
    Calls Try.prog 9 #[.int .i64 most] w fun e w' => e = .returned (.tuple #[.agg #[.int .i64 (if newE most = 0 then most else 0), .slice none 0 0], .int .i64 (newE most)]) ∧ Below w.heap.size w w' := by
  unfold newE
  by_cases h1 : most < 0
  · rw [if_pos h1]
    go_enter Try.func9, Try.ntmps9
    go_wp2
    refine bodyPost_ret (v := .tuple #[.agg #[.int .i64 0, .slice none 0 0], .int .i64 2]) (by simp [results, Try.results9, go_sem]) rfl ?_
    exact ⟨rfl, (Below.refl _ _).alloc (Nat.le_refl _) _⟩
  · by_cases h2 : 65536 < most
    · rw [if_neg h1, if_pos h2]
      go_enter Try.func9, Try.ntmps9
      go_wp2
      refine bodyPost_ret (v := .tuple #[.agg #[.int .i64 0, .slice none 0 0], .int .i64 3]) (by simp [results, Try.results9, go_sem]) rfl ?_
      exact ⟨rfl, (Below.refl _ _).alloc (Nat.le_refl _) _⟩
    · rw [if_neg h1, if_neg h2]
      go_enter Try.func9, Try.ntmps9
      go_wp2
      refine bodyPost_ret (v := .tuple #[.agg #[.int .i64 most, .slice none 0 0], .int .i64 0]) (by simp [results, Try.results9, go_sem]) rfl ?_
      exact ⟨rfl, (Below.refl _ _).alloc (Nat.le_refl _) _⟩

set_option maxRecDepth 100000 in
set_option maxHeartbeats 400000 in
theorem rfirst_nil (size : Int) (a : Option Addr) (cap : Nat) (w : World) :
    Calls Try.prog 29 #[.agg #[.int .i64 size, .slice a 0 cap]] w fun e w' => e = .returned (.tuple #[.string { data := #[] }, .bool false]) ∧ Below w.heap.size w w' := by
  go_enter Try.func29, Try.ntmps29
  go_wp2
  refine bodyPost_ret (v := .tuple #[.string { data := #[] }, .bool false]) (by simp [results, Try.results29, go_sem]) rfl ?_
  exact ⟨rfl, (Below.refl _ _).alloc (Nat.le_refl _) _⟩
set_option maxRecDepth 100000 in
set_option maxHeartbeats 400000 in
theorem rfirst_cons (size : Int) (a : Option Addr) (cap : Nat) (x : ByteArray) (xs : List ByteArray) (w : World) (h : RwS w a (x :: xs)) :
    Calls Try.prog 29 #[.agg #[.int .i64 size, .slice a (x :: xs).length cap]] w fun e w' => e = .returned (.tuple #[.string x, .bool true]) ∧ Below w.heap.size w w' := by
  obtain ⟨b, o, rfl, hb, hc⟩ := h.here (i := 0) (by simp)
  have c0 := hc 0 (by simp)
  simp only [Nat.add_zero, List.getElem_cons_zero] at c0
  have hbl : Below w.heap.size w (w.alloc (.cells #[.int .i64 size, .slice (some ⟨b, o, none⟩) (x :: xs).length cap] 24)) := (Below.refl _ _).alloc (Nat.le_refl _) _
  obtain ⟨n, hn⟩ : ∃ n, n = (x :: xs).length := ⟨_, rfl⟩
  have hn0 : ¬ (n : Int) = 0 := by rw [hn]; simp; omega
  have hn1 : ¬ n = 0 := by rw [hn]; simp
  have hn2 : (0 : Int) < (n : Int) := by omega
  have hn3 : 0 < n := by omega
  rw [← hn] at hbl ⊢
  have d0 := (hbl.cell (p := ⟨b, o, none⟩) hb).trans c0
  clear hc h hn c0
  go_enter Try.func29, Try.ntmps29
  go_wp2
  refine bodyPost_ret (v := .tuple #[.string x, .bool true]) (by simp [results, Try.results29, go_sem]) rfl ?_
  exact ⟨rfl, hbl⟩

set_option maxRecDepth 100000 in
set_option maxHeartbeats 400000 in
theorem rclear_any (size : Int) (v : Value) (a : Option Addr) (n cap : Nat) (hv : v = .slice a n cap) (w : World) :
    Calls Try.prog 32 #[.agg #[.int .i64 size, v]] w fun e w' => e = .returned (.agg #[.int .i64 size, .slice none 0 0]) ∧ Below w.heap.size w w' := by
  subst hv
  go_enter Try.func32, Try.ntmps32
  go_wp2
  refine bodyPost_ret (v := .agg #[.int .i64 size, .slice none 0 0]) (by simp [results, Try.results32, go_sem]) rfl ?_
  exact ⟨rfl, ((Below.refl _ _).alloc (Nat.le_refl _) _).alloc (by simp) _⟩

set_option maxRecDepth 100000 in
set_option maxHeartbeats 400000 in
theorem rpush_full (size : Nat) (a : Option Addr) (cap : Nat) (x : ByteArray) (w : World) :
    Calls Try.prog 12 #[.agg #[.int .i64 (size : Int), .slice a size cap], .string x] w fun e w' => e = .returned (.tuple #[.agg #[.int .i64 (size : Int), .slice a size cap], .int .i64 50]) ∧ Below w.heap.size w w' := by
  go_enter Try.func12, Try.ntmps12
  go_wp2
  refine bodyPost_ret (v := .tuple #[.agg #[.int .i64 (size : Int), .slice a size cap], .int .i64 50]) (by simp [results, Try.results12, go_sem]) rfl ?_
  exact ⟨rfl, ((Below.refl _ _).alloc (Nat.le_refl _) _).alloc (by simp) _⟩

/-- Blocks behind a row that grew. -/
theorem grown_kept {w w' : World} {r : Option Nat} (hg : w.grownBy w' r) {k : Nat} {o : Obj} (hk : w.heap[k]? = some o) (hne : r ≠ some k) : w'.heap[k]? = some o :=
  (hg.block k (Array.getElem?_eq_some_iff.1 hk).1 (fun e => hne e.symm)).trans hk

set_option maxRecDepth 100000 in
set_option maxHeartbeats 1000000 in
theorem rpush_any (size : Nat) (a : Option Addr) (cap : Nat) (xs : List ByteArray) (x : ByteArray) (w : World) (hr : RwS w a xs) (hnil : a = none → xs.length = 0 ∧ cap = 0) (hl : xs.length < size) (hs : size ≤ 65536) :
    Calls Try.prog 12 #[.agg #[.int .i64 (size : Int), .slice a xs.length cap], .string x] w fun e w' => ∃ v, e = .returned (.tuple #[.agg #[.int .i64 (size : Int), v], .int .i64 0]) ∧ OwS w' w.heap.size v (xs ++ [x]) ∧ Below w.heap.size w w' := by
  have hne : ¬ (xs.length : Int) = (size : Int) := by omega
  have hne2 : ¬ xs.length = size := by omega
  obtain ⟨W2, hW2⟩ : ∃ W2, W2 = (w.alloc (.cells #[.int .i64 (size : Int), .slice a xs.length cap] 24)).alloc (.cells #[.int .i64 0, .slice none 0 0] 24) := ⟨_, rfl⟩
  have hz2 : W2.heap.size = w.heap.size + 1 + 1 := by rw [hW2]; simp
  have hb2 : Below w.heap.size w W2 := by rw [hW2]; exact ((Below.refl _ _).alloc (Nat.le_refl _) _).alloc (by simp) _
  have hB2 : W2.heap[w.heap.size]? = some (.cells #[.int .i64 (size : Int), .slice a xs.length cap] 24 (0, 0)) := by
    rw [hW2, Below.heap_alloc _ _ _ (by simp)]; exact heap_alloc_new w _
  have hC2 : W2.heap[w.heap.size + 1]? = some (.cells #[.int .i64 0, .slice none 0 0] 24 (0, 0)) := by
    rw [hW2]; have := heap_alloc_new (w.alloc (.cells #[.int .i64 (size : Int), .slice a xs.length cap] 24)) (.cells #[.int .i64 0, .slice none 0 0] 24); simpa using this
  have how := OwS.empty W2
  have hb3 : Below W2.heap.size W2 (W2.alloc (.cells #[] 9)) := (Below.refl _ _).alloc (Nat.le_refl _) _
  have hB3 := (hb3.block w.heap.size (by omega)).trans hB2
  have hC3 := (hb3.block (w.heap.size + 1) (by omega)).trans hC2
  have hr3 : RwS (W2.alloc (.cells #[] 9)) a xs := (hr.below hb2).below hb3
  rw [hz2] at how
  rw [hW2] at how hB3 hC3 hr3
  have HW2 := hide_it hW2
  have HB2 := hide_it hb2
  have HB3 := hide_it hB3
  have HC3 := hide_it hC3
  have HZ := hide_it hz2
  have HR := hide_it hr3
  have HN := hide_it hnil
  have HO := hide_it how
  clear hW2 hb2 hb3 hB2 hC2 hB3 hC3 hr hz2 hr3 hnil how
  go_enter Try.func12, Try.ntmps12
  go_wp2_with (first | (at_builtin; refine wpList_append_rowS _ rfl _ _ rfl (w.heap.size + 1 + 1) _ _ rfl HO.out a cap xs rfl HR.out HN.out (by simp; omega) (by rw [World.size_alloc, World.size_alloc, World.size_alloc]; omega) ?_; intro v4 w4 hown4 hg4 hat4; have hB4 := grown_kept hg4 HB3.out (fun e => by have e2 : some (w.heap.size + 1 + 1) = some w.heap.size := e; have := Option.some.inj e2; omega); have hC4 := grown_kept hg4 HC3.out (fun e => by have e2 : some (w.heap.size + 1 + 1) = some (w.heap.size + 1) := e; have := Option.some.inj e2; omega); have c0 := cell_of_row _ _ 0 _ _ _ hB4; have c1 := cell_of_row _ _ 1 _ _ _ hB4; have c2 := cell_of_row _ _ 0 _ _ _ hC4; have c3 := cell_of_row _ _ 1 _ _ _ hC4; have f1 := frozen_of_row _ _ 1 _ _ hB4; have f2 := frozen_of_row _ _ 0 _ _ hC4; have f3 := frozen_of_row _ _ 1 _ _ hC4; simp at c0 c1 c2 c3; have HG4 := hide_it hg4; have HOW4 := hide_it hown4; have HB4 := hide_it hB4; have HC4 := hide_it hC4; have hs4 := hg4.size; simp at hs4; clear hg4 hown4 hB4 hC4 hat4) |
    (at_builtin; refine wpList_append_oneS w4 rfl _ _ rfl (w.heap.size + 1 + 1) v4 _ rfl HOW4.out x rfl (by simp; omega) (by omega) ?_; intro v5 w5 hown5 hg5 hat5; have hB5 := grown_kept hg5 ((Below.heap_alloc _ _ _ (by omega)).trans HB4.out) (fun e => by have := HOW4.out.ge e; omega); have hC5 := grown_kept hg5 ((Below.heap_alloc _ _ _ (by omega)).trans HC4.out) (fun e => by have := HOW4.out.ge e; omega); clear c0 c1 c2 c3 f1 f2 f3; obtain ⟨a5, c5, hv5, _⟩ := hown5.row; subst hv5; have c0 := cell_of_row _ _ 0 _ _ _ hB5; have c1 := cell_of_row _ _ 1 _ _ _ hB5; have c2 := cell_of_row _ _ 0 _ _ _ hC5; have c3 := cell_of_row _ _ 1 _ _ _ hC5; have f1 := frozen_of_row _ _ 1 _ _ hB5; have f2 := frozen_of_row _ _ 0 _ _ hC5; have f3 := frozen_of_row _ _ 1 _ _ hC5; simp at c0 c1 c2 c3; have HG5 := hide_it hg5; have HOW5 := hide_it hown5; have HB5 := hide_it hB5; have HC5 := hide_it hC5; have hs5 := hg5.size; simp at hs5; clear hg5 hown5 hB5 hC5 hat5))
  have how5 : OwS w5 (w.heap.size + 1 + 1) (.slice a5 (xs.length + 1) c5) (xs ++ [x]) := by simpa using HOW5.out
  refine bodyPost_ret (v := .tuple #[.agg #[.int .i64 (size : Int), .slice a5 (xs.length + 1) c5], .int .i64 0]) (by simp [results, Try.results12, go_sem, c2, c3]) rfl ⟨_, rfl, ?_, ?_⟩
  · refine OwS.mono (how5.heap fun j hj => ?_) (by omega)
    have hge := how5.ge hj
    rw [Below.heap_setCell _ _ _ _ (by simp; omega), Below.heap_setCell _ _ _ _ (by simp; omega), Below.heap_setCell _ _ _ _ (by simp; omega)]
  · have z2 := HB2.out
    have hz := HZ.out
    have z3 : Below w.heap.size w (W2.alloc (.cells #[] 9)) := z2.alloc (by omega) _
    have hg4 := HG4.out
    rw [← HW2.out] at hg4
    have z4 := z3.grown hg4 (by simp; omega) (fun k e => by have e2 : some (w.heap.size + 1 + 1) = some k := e; have := Option.some.inj e2; omega)
    have z5 := (z4.alloc (by omega) (.cells #[.string x] 9)).grown HG5.out (by simp; omega) (fun k e => by have := HOW4.out.ge e; omega)
    exact ((z5.setCell (p := ⟨w.heap.size, 1, none⟩) (Nat.le_refl _) _).setCell (p := ⟨w.heap.size + 1, 0, none⟩) (by simp) _).setCell (p := ⟨w.heap.size + 1, 1, none⟩) (by simp) _

set_option maxRecDepth 100000 in
set_option maxHeartbeats 400000 in
theorem rpop_nil (size : Int) (a : Option Addr) (cap : Nat) (w : World) :
    Calls Try.prog 27 #[.agg #[.int .i64 size, .slice a 0 cap]] w fun e w' => e = .returned (.tuple #[.string { data := #[] }, .bool false, .agg #[.int .i64 size, .slice a 0 cap]]) ∧ Below w.heap.size w w' := by
  obtain ⟨W2, hW2⟩ : ∃ W2, W2 = (w.alloc (.cells #[.int .i64 size, .slice a 0 cap] 24)).alloc (.cells #[.int .i64 0, .slice none 0 0] 24) := ⟨_, rfl⟩
  have hb2 : Below w.heap.size w W2 := by rw [hW2]; exact ((Below.refl _ _).alloc (Nat.le_refl _) _).alloc (by simp) _
  have hB2 : W2.heap[w.heap.size]? = some (.cells #[.int .i64 size, .slice a 0 cap] 24 (0, 0)) := by
    rw [hW2, Below.heap_alloc _ _ _ (by simp)]; exact heap_alloc_new w _
  have hC2 : W2.heap[w.heap.size + 1]? = some (.cells #[.int .i64 0, .slice none 0 0] 24 (0, 0)) := by
    rw [hW2]; have := heap_alloc_new (w.alloc (.cells #[.int .i64 size, .slice a 0 cap] 24)) (.cells #[.int .i64 0, .slice none 0 0] 24); simpa using this
  have hfi := rfirst_nil size a cap W2
  rw [hW2] at hfi
  go_enter Try.func27, Try.ntmps27
  go_wp2_with fail
  refine hfi.mono ?_
  rw [← hW2]
  rintro e w3 ⟨rfl, hb3⟩
  have hz2 : W2.heap.size = w.heap.size + 1 + 1 := by rw [hW2]; simp
  have hB3 := (hb3.block w.heap.size (by omega)).trans hB2
  have hC3 := (hb3.block (w.heap.size + 1) (by omega)).trans hC2
  have c0 := cell_of_row _ _ 0 _ _ _ hB3
  have c1 := cell_of_row _ _ 1 _ _ _ hB3
  have c2 := cell_of_row _ _ 0 _ _ _ hC3
  have c3 := cell_of_row _ _ 1 _ _ _ hC3
  have f2 := frozen_of_row _ _ 0 _ _ hC3
  have f3 := frozen_of_row _ _ 1 _ _ hC3
  simp at c0 c1 c2 c3
  have HBB := hide_it (hb2.trans (hb3.mono hb2.size))
  clear hfi hb3 hb2 hB2 hC2 hB3 hC3 hz2 hW2
  go_wp2
  go_region
  all_goals go_wp2
  all_goals (refine bodyPost_ret (v := .tuple #[.string { data := #[] }, .bool false, .agg #[.int .i64 size, .slice a 0 cap]]) (by simp [results, Try.results27, go_sem, c2, c3]) rfl ?_)
  all_goals exact ⟨rfl, ((HBB.out.drew.setCell (p := ⟨w.heap.size + 1, 0, none⟩) (by simp) _).setCell (p := ⟨w.heap.size + 1, 1, none⟩) (by simp) _)⟩

theorem rpop_end {size : Int} {x : ByteArray} {w w3 w4 : World} {a4 : Option Addr} {k4 : Nat} {xs : List ByteArray} {t : TypeId} (hb : Below w.heap.size w w3)
    (hg : (w3.alloc (.cells #[] t)).grownBy w4 (some w3.heap.size)) (ho : OwS w4 w3.heap.size (.slice a4 ([] ++ xs).length k4) ([] ++ xs)) (hs : w.heap.size + 1 + 1 ≤ w3.heap.size) :
    ∃ v, Ending.returned (.tuple #[.string x, .bool true, .agg #[.int .i64 size, .slice a4 xs.length k4]]) = .returned (.tuple #[.string x, .bool true, .agg #[.int .i64 size, v]]) ∧
      OwS (((w4.setCell ⟨w.heap.size, 1, none⟩ (.slice a4 xs.length k4)).setCell ⟨w.heap.size + 1, 0, none⟩ (.int .i64 size)).setCell ⟨w.heap.size + 1, 1, none⟩ (.slice a4 xs.length k4)).drew w.heap.size v xs ∧
      Below w.heap.size w (((w4.setCell ⟨w.heap.size, 1, none⟩ (.slice a4 xs.length k4)).setCell ⟨w.heap.size + 1, 0, none⟩ (.int .i64 size)).setCell ⟨w.heap.size + 1, 1, none⟩ (.slice a4 xs.length k4)).drew := by
  have ho' : OwS w4 w3.heap.size (.slice a4 xs.length k4) xs := by simpa using ho
  refine ⟨_, rfl, OwS.mono (ho'.heap fun j hj => ?_) (by omega), ?_⟩
  · have hge := ho'.ge hj
    show (((w4.setCell ⟨w.heap.size, 1, none⟩ (.slice a4 xs.length k4)).setCell ⟨w.heap.size + 1, 0, none⟩ (.int .i64 size)).setCell ⟨w.heap.size + 1, 1, none⟩ (.slice a4 xs.length k4)).heap[j]? = _
    rw [Below.heap_setCell _ _ _ _ (by simp; omega), Below.heap_setCell _ _ _ _ (by simp; omega), Below.heap_setCell _ _ _ _ (by simp; omega)]
  · have z4 := (hb.alloc (by omega) (.cells #[] t)).grown hg (by simp; omega) (fun k e => by have := Option.some.inj e; omega)
    exact (((z4.setCell (p := ⟨w.heap.size, 1, none⟩) (Nat.le_refl _) _).setCell (p := ⟨w.heap.size + 1, 0, none⟩) (by simp) _).setCell (p := ⟨w.heap.size + 1, 1, none⟩) (by simp) _).drew

set_option maxRecDepth 100000 in
set_option maxHeartbeats 1000000 in
theorem rpop_cons (size : Int) (a : Option Addr) (cap : Nat) (x : ByteArray) (xs : List ByteArray) (w : World) (hr : RwS w a (x :: xs)) (hcap : (x :: xs).length ≤ cap) (hl : xs.length < 65536) :
    Calls Try.prog 27 #[.agg #[.int .i64 size, .slice a (x :: xs).length cap]] w fun e w' => ∃ v, e = .returned (.tuple #[.string x, .bool true, .agg #[.int .i64 size, v]]) ∧ OwS w' w.heap.size v xs ∧ Below w.heap.size w w' := by
  obtain ⟨W2, hW2⟩ : ∃ W2, W2 = (w.alloc (.cells #[.int .i64 size, .slice a (x :: xs).length cap] 24)).alloc (.cells #[.int .i64 0, .slice none 0 0] 24) := ⟨_, rfl⟩
  have hb2 : Below w.heap.size w W2 := by rw [hW2]; exact ((Below.refl _ _).alloc (Nat.le_refl _) _).alloc (by simp) _
  have hB2 : W2.heap[w.heap.size]? = some (.cells #[.int .i64 size, .slice a (x :: xs).length cap] 24 (0, 0)) := by
    rw [hW2, Below.heap_alloc _ _ _ (by simp)]; exact heap_alloc_new w _
  have hC2 : W2.heap[w.heap.size + 1]? = some (.cells #[.int .i64 0, .slice none 0 0] 24 (0, 0)) := by
    rw [hW2]; have := heap_alloc_new (w.alloc (.cells #[.int .i64 size, .slice a (x :: xs).length cap] 24)) (.cells #[.int .i64 0, .slice none 0 0] 24); simpa using this
  have hfi := rfirst_cons size a cap x xs W2 (hr.below hb2)
  obtain ⟨b, o, rfl, hbl, hc⟩ := hr.here (i := 0) (by simp)
  rw [hW2] at hfi
  simp only [List.length_cons] at hfi hB2 hcap hW2 ⊢
  go_enter Try.func27, Try.ntmps27
  go_wp2_with fail
  refine hfi.mono ?_
  rw [← hW2]
  rintro e w3 ⟨rfl, hb3⟩
  have hz2 : W2.heap.size = w.heap.size + 1 + 1 := by rw [hW2]; simp
  have hB3 := (hb3.block w.heap.size (by omega)).trans hB2
  have hC3 := (hb3.block (w.heap.size + 1) (by omega)).trans hC2
  have c0 := cell_of_row _ _ 0 _ _ _ hB3
  have c1 := cell_of_row _ _ 1 _ _ _ hB3
  have c2 := cell_of_row _ _ 0 _ _ _ hC3
  have c3 := cell_of_row _ _ 1 _ _ _ hC3
  have f1 := frozen_of_row _ _ 1 _ _ hB3
  have f2 := frozen_of_row _ _ 0 _ _ hC3
  have f3 := frozen_of_row _ _ 1 _ _ hC3
  simp only [List.getElem?_toArray, List.getElem?_cons_zero, List.getElem?_cons_succ] at c0 c1 c2 c3
  have hs3 : w.heap.size + 1 + 1 ≤ w3.heap.size := by have := hb3.size; omega
  have e1 := (((Below.refl w3.heap.size w3).alloc (Nat.le_refl _) (.cells #[] 9)).cell (p := ⟨w.heap.size, 1, none⟩) (by simp; omega)).trans c1
  have HBB := hide_it (hb2.trans (hb3.mono hb2.size))
  have hr3 : RwS (w3.alloc (.cells #[] 9)) (some ⟨b, o + 1, none⟩) xs := by
    refine .inr ⟨b, o + 1, rfl, by simp; omega, fun i hi => ?_⟩
    have hb5 : Below w.heap.size w (w3.alloc (.cells #[] 9)) := (hb2.trans (hb3.mono hb2.size)).alloc (by omega) _
    rw [hb5.cell (p := ⟨b, o + 1 + i, none⟩) hbl]
    have := hc (i + 1) (by simpa using hi)
    rw [Nat.add_assoc, Nat.add_comm 1 i]
    simpa using this
  have HB3 := hide_it hB3
  have HC3 := hide_it hC3
  clear hfi hb3 hb2 hB2 hC2 hB3 hC3 hz2 hW2 hr hc
  by_cases hc1 : cap = 1
  · have hx0 : xs = [] := List.eq_nil_of_length_eq_zero (by omega)
    subst hx0
    subst hc1
    have HR := hide_it (show RwS (w3.alloc (.cells #[] 9)) (some ⟨b, o, none⟩) [] from .inl rfl)
    clear hr3
    simp only [List.length_nil, Nat.zero_add] at c1 e1 ⊢
    go_wp2_with (at_builtin; (refine wpList_append_rowS _ rfl _ _ rfl w3.heap.size _ _ rfl (OwS.empty w3) (some ⟨b, o, none⟩) 0 [] rfl HR.out (fun e => by cases e) (by simp) (by rw [World.size_alloc]; omega) ?_); intro v4 w4 hown4 hg4 hat4; have hB4 := grown_kept hg4 ((Below.heap_alloc _ _ _ (by omega)).trans HB3.out) (fun e => by have e2 : some w3.heap.size = some w.heap.size := e; have := Option.some.inj e2; omega); have hC4 := grown_kept hg4 ((Below.heap_alloc _ _ _ (by omega)).trans HC3.out) (fun e => by have e2 : some w3.heap.size = some (w.heap.size + 1) := e; have := Option.some.inj e2; omega); clear c0 c1 c2 c3 f1 f2 f3 e1; obtain ⟨a4, k4, hv4, _⟩ := hown4.row; subst hv4; have c0 := cell_of_row _ _ 0 _ _ _ hB4; have c1 := cell_of_row _ _ 1 _ _ _ hB4; have c2 := cell_of_row _ _ 0 _ _ _ hC4; have c3 := cell_of_row _ _ 1 _ _ _ hC4; have f1 := frozen_of_row _ _ 1 _ _ hB4; have f2 := frozen_of_row _ _ 0 _ _ hC4; have f3 := frozen_of_row _ _ 1 _ _ hC4; simp at c0 c1 c2 c3; have HG4 := hide_it hg4; have HOW4 := hide_it hown4; have HB4 := hide_it hB4; have HC4 := hide_it hC4; have hs4 := hg4.size; simp at hs4; clear hg4 hown4 hB4 hC4 hat4)
    go_region
    all_goals go_wp2
    all_goals (refine bodyPost_ret (v := .tuple #[.string x, .bool true, .agg #[.int .i64 size, .slice a4 0 k4]]) (by simp [results, Try.results27, go_sem, c2, c3]) rfl ?_)
    all_goals exact rpop_end (xs := []) HBB.out HG4.out HOW4.out hs3
  · have HR := hide_it hr3
    have hx1 : xs.length + 1 ≤ cap := hcap
    clear hr3 hcap
    go_wp2_with (at_builtin; (refine wpList_append_rowS _ rfl _ _ rfl w3.heap.size _ _ rfl (OwS.empty w3) (some ⟨b, o + 1, none⟩) (cap - 1) xs rfl HR.out (fun e => by cases e) (by simp; omega) (by rw [World.size_alloc]; omega) ?_); intro v4 w4 hown4 hg4 hat4; have hB4 := grown_kept hg4 ((Below.heap_alloc _ _ _ (by omega)).trans HB3.out) (fun e => by have e2 : some w3.heap.size = some w.heap.size := e; have := Option.some.inj e2; omega); have hC4 := grown_kept hg4 ((Below.heap_alloc _ _ _ (by omega)).trans HC3.out) (fun e => by have e2 : some w3.heap.size = some (w.heap.size + 1) := e; have := Option.some.inj e2; omega); clear c0 c1 c2 c3 f1 f2 f3 e1; obtain ⟨a4, k4, hv4, _⟩ := hown4.row; subst hv4; have c0 := cell_of_row _ _ 0 _ _ _ hB4; have c1 := cell_of_row _ _ 1 _ _ _ hB4; have c2 := cell_of_row _ _ 0 _ _ _ hC4; have c3 := cell_of_row _ _ 1 _ _ _ hC4; have f1 := frozen_of_row _ _ 1 _ _ hB4; have f2 := frozen_of_row _ _ 0 _ _ hC4; have f3 := frozen_of_row _ _ 1 _ _ hC4; simp at c0 c1 c2 c3; have HG4 := hide_it hg4; have HOW4 := hide_it hown4; have HB4 := hide_it hB4; have HC4 := hide_it hC4; have hs4 := hg4.size; simp at hs4; clear hg4 hown4 hB4 hC4 hat4)
    go_region
    all_goals go_wp2
    all_goals (refine bodyPost_ret (v := .tuple #[.string x, .bool true, .agg #[.int .i64 size, .slice a4 xs.length k4]]) (by simp [results, Try.results27, go_sem, c2, c3]) rfl ?_)
    all_goals exact rpop_end HBB.out HG4.out HOW4.out hs3

end Go.Proofs.Ytomfhbngpikjeaa
