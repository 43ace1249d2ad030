/- Down, Up and Heights once more, as memory of the call's own; what the law asks; what it spoils. -/
import Derived.Test.YthclmkmajlinhaaHg3
import Derived.Test.YthclmkmajlinhaaHg5
import Derived.Test.YthclmkmajlinhaaRm1
namespace Go.Proofs.Ythclmkmajlinhaa
open Go.RowKit

/-- v is a slice of the call's own that holds the ints L. -/
def OwnI (w : World) (base : Nat) (v : Value) (L : List Nat) : Prop := w.ownsRow base 3 1 v L.length (L.map encI)
theorem OwnI.keep {w w' : World} {base : Nat} {v : Value} {L : List Nat} (h : OwnI w base v L) (hk : ∀ j, v.ownBlock = some j → w'.heap[j]? = w.heap[j]?) : OwnI w' base v L := by
  refine ⟨h.1, ?_⟩
  rcases h.2 with h2 | ⟨g, cap, cur, rfl, h3, hh, h4⟩
  · exact .inl h2
  · exact .inr ⟨g, cap, cur, rfl, h3, (hk g rfl).trans hh, h4⟩
theorem OwnI.inside {w : World} {base : Nat} {v : Value} {L : List Nat} (h : OwnI w base v L) {j : Nat} (hj : v.ownBlock = some j) : base ≤ j ∧ j < w.heap.size := by
  rcases h.2 with ⟨rfl, _⟩ | ⟨g, cap, cur, rfl, h3, hh, h4⟩
  · cases hj
  · cases hj; exact ⟨h3, (Array.getElem?_eq_some_iff.1 hh).1⟩
theorem OwnI.below {w w' : World} {base : Nat} {v : Value} {L : List Nat} (h : OwnI w base v L) (hb : Below w.heap.size w w') : OwnI w' base v L := h.keep fun _ hj => hb.block _ (h.inside hj).2
theorem OwnI.row {w : World} {base : Nat} {v : Value} {L : List Nat} (h : OwnI w base v L) : ∃ a cap, v = .slice a L.length cap ∧ RowI w a L ∧ L.length ≤ cap := rowI_of_owns h
theorem IRow.own {w : World} {g n : Nat} {h : Nat → Nat} (H : IRow w g n h) (hn : n ≤ maxLen) {base : Nat} (hb : base ≤ g) {L : List Nat} (hL : L = (List.range n).map h) : OwnI w base (.slice (some ⟨g, 0, none⟩) n n) L := by
  obtain ⟨c, h1, h2, h3⟩ := H
  have hl : L.length = n := by rw [hL]; simp
  unfold OwnI
  rw [hl]
  refine ⟨by simp [hl], .inr ⟨g, n, c, rfl, hb, h1, Nat.le_refl _, hn, by omega, ?_⟩⟩
  rw [Nat.mul_one, ← h2, List.take_of_length_le (by simp)]
  apply List.ext_getElem?
  intro i
  by_cases hi : i < n
  · have := h3 i hi
    rw [← Array.getElem?_toList] at this
    rw [this, hL, List.map_map, List.getElem?_map, List.getElem?_range hi]; rfl
  · rw [List.getElem?_eq_none (by simp; omega), List.getElem?_eq_none (by simp [hl]; omega)]

set_option maxHeartbeats 400000 in
theorem down_own (x : Nat) (a : Option Addr) (cap : Nat) (zs : List Nat) (w : World) (hx : W64 x) (hr : Row w a zs) (h64 : All64 zs) (hl : 8 * zs.length ≤ 140737488355328) :
    Calls Try.prog 23 #[.slice a zs.length cap, .int .u64 (x : Int)] w fun e w' => (∃ v, e = .returned v ∧ OwnI w' w.heap.size v (plOf (fun y => lq y x) zs zs.length)) ∧ Below w.heap.size w w' := by
  have hp := placesD_any x w.heap.size a cap zs (w.alloc (.cells #[.int .u64 (x : Int)] 36)) hx (hr.below ((Below.refl _ _).alloc (Nat.le_refl _) _)) h64 hl (by simp) (by rw [cell_of_row _ _ _ _ _ _ (heap_alloc_new w _)]; rfl)
  go_enter Try.func23, Try.ntmps23
  go_wp2_with fail
  refine hp.mono ?_
  rintro e w1 ⟨⟨v, rfl, hown⟩, hb⟩
  go_wp2_with fail
  go_ret
  exact ⟨⟨v, rfl, rebase hown (by simp)⟩, (((Below.refl _ _).alloc (Nat.le_refl _) _).trans (hb.mono (by simp)))⟩

set_option maxHeartbeats 400000 in
theorem up_own (x : Nat) (a : Option Addr) (cap : Nat) (zs : List Nat) (w : World) (hx : W64 x) (hr : Row w a zs) (h64 : All64 zs) (hl : 8 * zs.length ≤ 140737488355328) :
    Calls Try.prog 24 #[.slice a zs.length cap, .int .u64 (x : Int)] w fun e w' => (∃ v, e = .returned v ∧ OwnI w' w.heap.size v (plOf (fun y => lq x y) zs zs.length)) ∧ Below w.heap.size w w' := by
  have hp := placesU_any x w.heap.size a cap zs (w.alloc (.cells #[.int .u64 (x : Int)] 36)) hx (hr.below ((Below.refl _ _).alloc (Nat.le_refl _) _)) h64 hl (by simp) (by rw [cell_of_row _ _ _ _ _ _ (heap_alloc_new w _)]; rfl)
  go_enter Try.func24, Try.ntmps24
  go_wp2_with fail
  refine hp.mono ?_
  rintro e w1 ⟨⟨v, rfl, hown⟩, hb⟩
  go_wp2_with fail
  go_ret
  exact ⟨⟨v, rfl, rebase hown (by simp)⟩, (((Below.refl _ _).alloc (Nat.le_refl _) _).trans (hb.mono (by simp)))⟩

/-- What is asked: Down, Up, Heights. -/
def askL (k : Nat) (zs : List Nat) (x : Nat) : List Nat := if k = 0 then plOf (fun y => lq y x) zs zs.length else if k = 1 then plOf (fun y => lq x y) zs zs.length else (List.range zs.length).map fun i => hgt zs (at0 zs i)
theorem askL_len (k : Nat) (zs : List Nat) (x : Nat) : (askL k zs x).length ≤ zs.length := by
  unfold askL
  split
  · exact plOf_len _ _ _
  · split
    · exact plOf_len _ _ _
    · simp

set_option maxRecDepth 100000 in
set_option maxHeartbeats 1000000 in
theorem ask_any (k : Nat) (hk : k < 3) (x : Nat) (a : Option Addr) (cap : Nat) (zs : List Nat) (w : World) (hd : DistinctOk zs) (hx : W64 x) (hr : Row w a zs) (h64 : All64 zs) (hl : 8 * zs.length ≤ 140737488355328) (hnil : a = none → zs.length = 0 ∧ cap = 0) :
    Calls Try.prog 28 #[.int .i64 (k : Int), .slice a zs.length cap, .int .u64 (x : Int)] w fun e w' => (∃ v, e = .returned v ∧ OwnI w' w.heap.size v (askL k zs x)) ∧ Below w.heap.size w w' := by
  have hmx : zs.length ≤ maxLen := by unfold maxLen; omega
  have h : k = 0 ∨ k = 1 ∨ k = 2 := by omega
  rcases h with rfl | rfl | rfl
  · have hc := down_own x a cap zs w hx hr h64 hl
    go_enter Try.func28, Try.ntmps28
    go_wp2_with fail
    refine hc.mono ?_
    rintro e w1 ⟨⟨v, rfl, ho⟩, hb⟩
    go_wp2_with fail
    go_ret
    exact ⟨⟨v, rfl, ho⟩, hb⟩
  · have hc := up_own x a cap zs w hx hr h64 hl
    go_enter Try.func28, Try.ntmps28
    go_wp2_with fail
    refine hc.mono ?_
    rintro e w1 ⟨⟨v, rfl, ho⟩, hb⟩
    go_wp2_with fail
    go_ret
    exact ⟨⟨v, rfl, ho⟩, hb⟩
  · have hc := heights_any a cap zs w hd hr h64 hl hnil
    go_enter Try.func28, Try.ntmps28
    go_wp2_with fail
    refine hc.mono ?_
    rintro e w1 ⟨⟨g, rfl, ho, hg⟩, hb⟩
    go_wp2_with fail
    go_ret
    exact ⟨⟨_, rfl, ho.own hmx hg rfl⟩, hb⟩

set_option maxRecDepth 100000 in
set_option maxHeartbeats 1000000 in
theorem answer_any (k : Nat) (hk : k < 3) (x : Nat) (a : Option Addr) (cap : Nat) (zs : List Nat) (w : World) (hx : W64 x) (hr : Row w a zs) (h64 : All64 zs) (hl : 8 * zs.length ≤ 140737488355328) :
    Calls Try.prog 26 #[.int .i64 (k : Int), .slice a zs.length cap, .int .u64 (x : Int)] w fun e w' => (∃ g c, e = .returned (.slice g (askL k zs x).length c) ∧ RowI w' g (askL k zs x)) ∧ Below w.heap.size w w' := by
  have h : k = 0 ∨ k = 1 ∨ k = 2 := by omega
  rcases h with rfl | rfl | rfl
  · have hc := rdown_any x a cap zs w hx hr h64 hl
    go_enter Try.func26, Try.ntmps26
    go_wp2_with fail
    refine hc.mono ?_
    rintro e w1 ⟨⟨g, c, rfl, ho⟩, hb⟩
    go_wp2_with fail
    go_ret
    exact ⟨⟨g, c, rfl, ho⟩, hb⟩
  · have hc := rup_any x a cap zs w hx hr h64 hl
    go_enter Try.func26, Try.ntmps26
    go_wp2_with fail
    refine hc.mono ?_
    rintro e w1 ⟨⟨g, c, rfl, ho⟩, hb⟩
    go_wp2_with fail
    go_ret
    exact ⟨⟨g, c, rfl, ho⟩, hb⟩
  · have hc := rheights_any a cap zs w hr h64 hl
    go_enter Try.func26, Try.ntmps26
    go_wp2_with fail
    refine hc.mono ?_
    rintro e w1 ⟨⟨g, rfl, ho, _⟩, hb⟩
    go_wp2_with fail
    go_ret
    exact ⟨⟨_, zs.length, by simp [askL], ho.row⟩, hb⟩

end Go.Proofs.Ythclmkmajlinhaa
