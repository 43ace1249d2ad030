/- The document's chain: At, Add. -/
import Derived.Test.YtncmnhomloanaabHn5
namespace Go.Proofs.Ytncmnhomloanaab
open Go.RowKit

/-- What came of a list of the document's: itself, or one in new memory. -/
structure DocTo (w : World) (v : Value) (ys : List Lk) (v' : Value) (w' : World) : Prop where
  own : OwD w' v' ys
  new : v' = v ∨ ∀ j, v'.ownBlock = some j → w.heap.size ≤ j
  bel : Below w.heap.size w w'

set_option maxRecDepth 100000 in
set_option maxHeartbeats 1000000 in
theorem rat_any {w : World} {a : Option Addr} {cap : Nat} {xs : List Lk} (hr : RowL w a xs) (hg : Good xs) (hl : xs.length ≤ 4000000000000) (s : Int) :
    Calls Try.prog 30 #[.slice a xs.length cap, .int .i64 s] w fun e w' => e = .returned (.int .i64 ((upN xs s : Int) - 1)) ∧ Below w.heap.size w w' := by
  obtain ⟨hu1, hu2⟩ := hg.up s
  have hle := upN_le xs s
  obtain ⟨U, hU⟩ : ∃ U, U = upN xs s := ⟨_, rfl⟩
  obtain ⟨N, hN⟩ : ∃ N, N = xs.length := ⟨_, rfl⟩
  rw [← hU] at hu1 hu2 hle ⊢
  rw [← hN] at hu2 hle hl ⊢
  have HN := hide_it hN
  have H1 := hide_it hu1
  have H2 := hide_it hu2
  clear hU hN hg hu1 hu2
  go_enter Try.func30, Try.ntmps30
  go_wp2_with fail
  go_loopw [5, 6] (fun A i wr => ∃ k : Nat, k ≤ N ∧ i = .int .i64 (k : Int) ∧ A = .int .i64 (((min k U : Nat) : Int) - 1) ∧ Hid (Below w.heap.size w wr)) (fun _ i _ => N - (intOf i).toNat)
  case atStart => exact ⟨0, by omega, rfl, by simp, hide_it (Below.refl _ _)⟩
  case round =>
    obtain ⟨k, hk, rfl, rfl, HB⟩ := hrel
    by_cases hlt : k < N
    · have hki : (k : Int) < (N : Int) := by omega
      have hw1 : IntKind.i64.wrap ((k : Int) + 1) = (k : Int) + 1 := i64_in (by omega) (by omega)
      obtain ⟨b, o, rfl, hb, d0, _, _⟩ := (hr.below HB.out).here (i := k) (by have := HN.out; omega)
      obtain ⟨z, hz⟩ : ∃ z, z = (lk xs k).n := ⟨_, rfl⟩
      rw [← hz] at d0
      by_cases hku : k < U
      · have hzs : z ≤ s := by rw [hz]; exact H1.out k hku
        have HM : Hid (min (k + 1) U = k + 1) := hide_it (by omega)
        clear hz hb hku
        go_wp2
        go_roundw
        case rel => exact ⟨k + 1, by omega, by go_num, by rw [HM.out]; simp, HB⟩
        case measure => simp [intOf]; omega
      · have hzs : ¬ z ≤ s := by rw [hz]; have := H2.out k (by omega) hlt; omega
        have HM : Hid (min (k + 1) U = min k U) := hide_it (by omega)
        clear hz hb hku
        go_wp2
        go_roundw
        case rel => exact ⟨k + 1, by omega, by go_num, by rw [HM.out], HB⟩
        case measure => simp [intOf]; omega
    · obtain rfl : k = N := by omega
      have HM : Hid (min k U = U) := hide_it (by omega)
      go_wp2
      go_ret
      exact ⟨by rw [HM.out]; rfl, HB.out⟩

set_option maxRecDepth 100000 in
set_option maxHeartbeats 2000000 in
theorem radd_any {w : World} {v : Value} {xs : List Lk} (h : OwD w v xs) (hl : xs.length ≤ 4000000000000) (x : Lk) :
    Calls Try.prog 28 #[v, lkV x] w fun e w' => (∃ v', e = .returned (.tuple #[v', .int .i64 (addE xs x)]) ∧ DocTo w v (addL xs x) v' w') := by
  obtain ⟨W, hW⟩ : ∃ W, W = w.alloc (.cells #[.int .i64 x.n, .string x.v, .bool x.d] 76) := ⟨_, rfl⟩
  have hb : Below w.heap.size w W := by rw [hW]; exact (Below.refl _ _).alloc (Nat.le_refl _) _
  have hz : W.heap.size = w.heap.size + 1 := by rw [hW]; simp
  have k0 : W.heap[w.heap.size]? = some (.cells #[.int .i64 x.n, .string x.v, .bool x.d] 76 (0, 0)) := by rw [hW]; exact heap_alloc_new w _
  have hw : OwD W v xs := OwnS.below h hb
  have HD := hide_it hw
  obtain ⟨a, cap, rfl, hrow, hcn, _, hnil, _⟩ := own_row hw
  have x0 : W.cell? ⟨w.heap.size, 0, none⟩ = some (.int .i64 x.n) := cell_of_row _ _ _ _ _ _ k0
  have HB0 := hide_it hb
  have HE1 : Hid (refu xs x → addE xs x = 130 ∧ addL xs x = xs) := fun hr => ⟨if_pos hr, if_pos hr⟩
  have HE2 : Hid (¬ refu xs x → addE xs x = 0 ∧ addL xs x = xs ++ [x]) := fun hr => ⟨if_neg hr, if_neg hr⟩
  have K0 := hide_it k0
  have HW := hide_it hW
  have HRow := hide_it hrow
  have HNil := hide_it hnil
  have hwlt : w.heap.size < W.heap.size := by omega
  unfold lkV
  -- what is refused
  have no : refu xs x → ∀ W', Below W.heap.size W W' → ∃ v', (Ending.returned (.tuple #[.slice a xs.length cap, .int .i64 130]) = .returned (.tuple #[v', .int .i64 (addE xs x)]) ∧ DocTo w (.slice a xs.length cap) (addL xs x) v' W') := fun hr W' hb' =>
    ⟨_, by rw [(HE1.out hr).1], by rw [(HE1.out hr).2]; exact OwnS.below HD.out hb', .inl rfl, HB0.out.trans (hb'.mono HB0.out.size)⟩
  have NO := hide_it no
  have LN := hide_it hl
  clear hb hz k0 hw hW hrow hnil h no
  by_cases c1 : x.n < 0
  · have hr : refu xs x := .inl c1
    have HR := hide_it hr
    clear hr
    go_enter Try.func28, Try.ntmps28
    go_wp2_with fail
    rw [← HW.out]
    refine wp_region_held_drew (S := (fun w' => w'.heap[w.heap.size]? = W.heap[w.heap.size]?)) (by kernel_rfl) ?_ (fun hHeld => ?_)
    · rfl
    refine take_on (i := 0) (v := ?_) rfl rfl (by kernel_rfl) (by kernel_rfl) (by kernel_rfl) (fun _ _ _ h => h) rfl ?_ hHeld ?_
    rotate_left
    · (intro wq hSq; have s0 := cell_of_row _ _ 0 _ _ _ (hSq.trans K0.out); go_simp <;> first | with_reducible rfl | rfl)
    simp only [Act.put, List.setIfInBounds_toArray, List.set_cons_zero, List.set_cons_succ]
    refine take_on (i := 1) (v := ?_) rfl rfl (by kernel_rfl) (by kernel_rfl) (by kernel_rfl) (fun _ _ _ h => h) rfl ?_ hHeld ?_
    rotate_left
    · (intro wq hSq; have s0 := cell_of_row _ _ 0 _ _ _ (hSq.trans K0.out); go_simp <;> first | with_reducible rfl | rfl)
    simp only [Act.put, List.setIfInBounds_toArray, List.set_cons_zero, List.set_cons_succ]
    refine take_on (i := 2) (v := ?_) rfl rfl (by kernel_rfl) (by kernel_rfl) (by kernel_rfl) (fun _ _ _ h => h) rfl ?_ hHeld ?_
    rotate_left
    · (intro wq hSq; have s0 := cell_of_row _ _ 0 _ _ _ (hSq.trans K0.out); go_simp <;> first | with_reducible rfl | rfl)
    simp only [Act.put, List.setIfInBounds_toArray, List.set_cons_zero, List.set_cons_succ]
    refine take_on (i := 3) (v := ?_) rfl rfl (by kernel_rfl) (by kernel_rfl) (by kernel_rfl) (fun _ _ _ h => h) rfl ?_ hHeld ?_
    rotate_left
    · (intro wq hSq; have s0 := cell_of_row _ _ 0 _ _ _ (hSq.trans K0.out); go_simp <;> first | with_reducible rfl | rfl)
    simp only [Act.put, List.setIfInBounds_toArray, List.set_cons_zero, List.set_cons_succ]
    refine take_off (i := 4) rfl rfl (by kernel_rfl) (by kernel_rfl) (by kernel_rfl) (fun _ _ _ h => h) rfl hHeld ?_
    simp only [Act.put, List.setIfInBounds_toArray, List.set_cons_zero, List.set_cons_succ]
    refine take_off (i := 5) rfl rfl (by kernel_rfl) (by kernel_rfl) (by kernel_rfl) (fun _ _ _ h => h) rfl hHeld ?_
    simp only [Act.put, List.setIfInBounds_toArray, List.set_cons_zero, List.set_cons_succ]
    refine take_off (i := 6) rfl rfl (by kernel_rfl) (by kernel_rfl) (by kernel_rfl) (fun _ _ _ h => h) rfl hHeld ?_
    simp only [Act.put, List.setIfInBounds_toArray, List.set_cons_zero, List.set_cons_succ]
    refine take_off (i := 7) rfl rfl (by kernel_rfl) (by kernel_rfl) (by kernel_rfl) (fun _ _ _ h => h) rfl hHeld ?_
    simp only [Act.put, List.setIfInBounds_toArray, List.set_cons_zero, List.set_cons_succ]
    refine take_off (i := 8) rfl rfl (by kernel_rfl) (by kernel_rfl) (by kernel_rfl) (fun _ _ _ h => h) rfl hHeld ?_
    simp only [Act.put, List.setIfInBounds_toArray, List.set_cons_zero, List.set_cons_succ]
    refine take_off (i := 9) rfl rfl (by kernel_rfl) (by kernel_rfl) (by kernel_rfl) (fun _ _ _ h => h) rfl hHeld ?_
    simp only [Act.put, List.setIfInBounds_toArray, List.set_cons_zero, List.set_cons_succ]
    refine take_off (i := 10) rfl rfl (by kernel_rfl) (by kernel_rfl) (by kernel_rfl) (fun _ _ _ h => h) rfl hHeld ?_
    simp only [Act.put, List.setIfInBounds_toArray, List.set_cons_zero, List.set_cons_succ]
    refine take_off (i := 11) rfl rfl (by kernel_rfl) (by kernel_rfl) (by kernel_rfl) (fun _ _ _ h => h) rfl hHeld ?_
    simp only [Act.put, List.setIfInBounds_toArray, List.set_cons_zero, List.set_cons_succ]
    refine take_off (i := 12) rfl rfl (by kernel_rfl) (by kernel_rfl) (by kernel_rfl) (fun _ _ _ h => h) rfl hHeld ?_
    simp only [Act.put, List.setIfInBounds_toArray, List.set_cons_zero, List.set_cons_succ]
    refine take_off (i := 13) rfl rfl (by kernel_rfl) (by kernel_rfl) (by kernel_rfl) (fun _ _ _ h => h) rfl hHeld ?_
    simp only [Act.put, List.setIfInBounds_toArray, List.set_cons_zero, List.set_cons_succ]
    refine take_off (i := 14) rfl rfl (by kernel_rfl) (by kernel_rfl) (by kernel_rfl) (fun _ _ _ h => h) rfl hHeld ?_
    simp only [Act.put, List.setIfInBounds_toArray, List.set_cons_zero, List.set_cons_succ]
    refine take_off (i := 15) rfl rfl (by kernel_rfl) (by kernel_rfl) (by kernel_rfl) (fun _ _ _ h => h) rfl hHeld ?_
    simp only [Act.put, List.setIfInBounds_toArray, List.set_cons_zero, List.set_cons_succ]
    refine take_off (i := 16) rfl rfl (by kernel_rfl) (by kernel_rfl) (by kernel_rfl) (fun _ _ _ h => h) rfl hHeld ?_
    simp only [Act.put, List.setIfInBounds_toArray, List.set_cons_zero, List.set_cons_succ]
    refine take_off (i := 17) rfl rfl (by kernel_rfl) (by kernel_rfl) (by kernel_rfl) (fun _ _ _ h => h) rfl hHeld ?_
    simp only [Act.put, List.setIfInBounds_toArray, List.set_cons_zero, List.set_cons_succ]
    refine take_off (i := 18) rfl rfl (by kernel_rfl) (by kernel_rfl) (by kernel_rfl) (fun _ _ _ h => h) rfl hHeld ?_
    simp only [Act.put, List.setIfInBounds_toArray, List.set_cons_zero, List.set_cons_succ]
    refine take_on (i := 19) (v := ?_) rfl rfl (by kernel_rfl) (by kernel_rfl) (by kernel_rfl) (fun _ _ _ h => h) rfl ?_ hHeld ?_
    rotate_left
    · (intro wq hSq; have s0 := cell_of_row _ _ 0 _ _ _ (hSq.trans K0.out); go_simp <;> first | with_reducible rfl | rfl)
    simp only [Act.put, List.setIfInBounds_toArray, List.set_cons_zero, List.set_cons_succ]
    refine wpAnyH_done (by kernel_rfl) ?_ _
    go_wp2
    go_ret2
    exact NO.out HR.out _ (Below.refl _ _).drew
  · have d1 : decide (x.n < 0) = false := decide_eq_false c1
    by_cases c2 : xs.length = 0
    · have hr : ¬ refu xs x := fun e => by unfold refu at e; omega
      have HR := hide_it hr
      have HC2 := hide_it c2
      rw [c2] at NO ⊢
      clear hr c2
      go_enter Try.func28, Try.ntmps28
      go_wp2_with fail
      rw [← HW.out]
      refine wp_region_held_drew (S := (fun w' => w'.heap[w.heap.size]? = W.heap[w.heap.size]?)) (by kernel_rfl) ?_ (fun hHeld => ?_)
      · rfl
      refine take_on (i := 0) (v := ?_) rfl rfl (by kernel_rfl) (by kernel_rfl) (by kernel_rfl) (fun _ _ _ h => h) rfl ?_ hHeld ?_
      rotate_left
      · (intro wq hSq; have s0 := cell_of_row _ _ 0 _ _ _ (hSq.trans K0.out); go_simp <;> first | with_reducible rfl | rfl)
      simp only [Act.put, List.setIfInBounds_toArray, List.set_cons_zero, List.set_cons_succ]
      refine take_on (i := 1) (v := ?_) rfl rfl (by kernel_rfl) (by kernel_rfl) (by kernel_rfl) (fun _ _ _ h => h) rfl ?_ hHeld ?_
      rotate_left
      · (intro wq hSq; have s0 := cell_of_row _ _ 0 _ _ _ (hSq.trans K0.out); go_simp <;> first | with_reducible rfl | rfl)
      simp only [Act.put, List.setIfInBounds_toArray, List.set_cons_zero, List.set_cons_succ]
      refine take_on (i := 2) (v := ?_) rfl rfl (by kernel_rfl) (by kernel_rfl) (by kernel_rfl) (fun _ _ _ h => h) rfl ?_ hHeld ?_
      rotate_left
      · (intro wq hSq; have s0 := cell_of_row _ _ 0 _ _ _ (hSq.trans K0.out); go_simp <;> first | with_reducible rfl | rfl)
      simp only [Act.put, List.setIfInBounds_toArray, List.set_cons_zero, List.set_cons_succ]
      refine take_on (i := 3) (v := ?_) rfl rfl (by kernel_rfl) (by kernel_rfl) (by kernel_rfl) (fun _ _ _ h => h) rfl ?_ hHeld ?_
      rotate_left
      · (intro wq hSq; have s0 := cell_of_row _ _ 0 _ _ _ (hSq.trans K0.out); go_simp <;> first | with_reducible rfl | rfl)
      simp only [Act.put, List.setIfInBounds_toArray, List.set_cons_zero, List.set_cons_succ]
      refine take_on (i := 4) (v := ?_) rfl rfl (by kernel_rfl) (by kernel_rfl) (by kernel_rfl) (fun _ _ _ h => h) rfl ?_ hHeld ?_
      rotate_left
      · (intro wq hSq; have s0 := cell_of_row _ _ 0 _ _ _ (hSq.trans K0.out); go_simp <;> first | with_reducible rfl | rfl)
      simp only [Act.put, List.setIfInBounds_toArray, List.set_cons_zero, List.set_cons_succ]
      refine take_on (i := 5) (v := ?_) rfl rfl (by kernel_rfl) (by kernel_rfl) (by kernel_rfl) (fun _ _ _ h => h) rfl ?_ hHeld ?_
      rotate_left
      · (intro wq hSq; have s0 := cell_of_row _ _ 0 _ _ _ (hSq.trans K0.out); go_simp <;> first | with_reducible rfl | rfl)
      simp only [Act.put, List.setIfInBounds_toArray, List.set_cons_zero, List.set_cons_succ]
      refine take_on (i := 6) (v := ?_) rfl rfl (by kernel_rfl) (by kernel_rfl) (by kernel_rfl) (fun _ _ _ h => h) rfl ?_ hHeld ?_
      rotate_left
      · (intro wq hSq; have s0 := cell_of_row _ _ 0 _ _ _ (hSq.trans K0.out); go_simp <;> first | with_reducible rfl | rfl)
      simp only [Act.put, List.setIfInBounds_toArray, List.set_cons_zero, List.set_cons_succ]
      refine take_on (i := 7) (v := ?_) rfl rfl (by kernel_rfl) (by kernel_rfl) (by kernel_rfl) (fun _ _ _ h => h) rfl ?_ hHeld ?_
      rotate_left
      · (intro wq hSq; have s0 := cell_of_row _ _ 0 _ _ _ (hSq.trans K0.out); go_simp <;> first | with_reducible rfl | rfl)
      simp only [Act.put, List.setIfInBounds_toArray, List.set_cons_zero, List.set_cons_succ]
      refine take_off (i := 8) rfl rfl (by kernel_rfl) (by kernel_rfl) (by kernel_rfl) (fun _ _ _ h => h) rfl hHeld ?_
      simp only [Act.put, List.setIfInBounds_toArray, List.set_cons_zero, List.set_cons_succ]
      refine take_off (i := 9) rfl rfl (by kernel_rfl) (by kernel_rfl) (by kernel_rfl) (fun _ _ _ h => h) rfl hHeld ?_
      simp only [Act.put, List.setIfInBounds_toArray, List.set_cons_zero, List.set_cons_succ]
      refine take_off (i := 10) rfl rfl (by kernel_rfl) (by kernel_rfl) (by kernel_rfl) (fun _ _ _ h => h) rfl hHeld ?_
      simp only [Act.put, List.setIfInBounds_toArray, List.set_cons_zero, List.set_cons_succ]
      refine take_off (i := 11) rfl rfl (by kernel_rfl) (by kernel_rfl) (by kernel_rfl) (fun _ _ _ h => h) rfl hHeld ?_
      simp only [Act.put, List.setIfInBounds_toArray, List.set_cons_zero, List.set_cons_succ]
      refine take_off (i := 12) rfl rfl (by kernel_rfl) (by kernel_rfl) (by kernel_rfl) (fun _ _ _ h => h) rfl hHeld ?_
      simp only [Act.put, List.setIfInBounds_toArray, List.set_cons_zero, List.set_cons_succ]
      refine take_off (i := 13) rfl rfl (by kernel_rfl) (by kernel_rfl) (by kernel_rfl) (fun _ _ _ h => h) rfl hHeld ?_
      simp only [Act.put, List.setIfInBounds_toArray, List.set_cons_zero, List.set_cons_succ]
      refine take_off (i := 14) rfl rfl (by kernel_rfl) (by kernel_rfl) (by kernel_rfl) (fun _ _ _ h => h) rfl hHeld ?_
      simp only [Act.put, List.setIfInBounds_toArray, List.set_cons_zero, List.set_cons_succ]
      refine take_off (i := 15) rfl rfl (by kernel_rfl) (by kernel_rfl) (by kernel_rfl) (fun _ _ _ h => h) rfl hHeld ?_
      simp only [Act.put, List.setIfInBounds_toArray, List.set_cons_zero, List.set_cons_succ]
      refine take_off (i := 16) rfl rfl (by kernel_rfl) (by kernel_rfl) (by kernel_rfl) (fun _ _ _ h => h) rfl hHeld ?_
      simp only [Act.put, List.setIfInBounds_toArray, List.set_cons_zero, List.set_cons_succ]
      refine take_off (i := 17) rfl rfl (by kernel_rfl) (by kernel_rfl) (by kernel_rfl) (fun _ _ _ h => h) rfl hHeld ?_
      simp only [Act.put, List.setIfInBounds_toArray, List.set_cons_zero, List.set_cons_succ]
      refine take_on (i := 18) (v := ?_) rfl rfl (by kernel_rfl) (by kernel_rfl) (by kernel_rfl) (fun _ _ _ h => h) rfl ?_ hHeld ?_
      rotate_left
      · (intro wq hSq; have s0 := cell_of_row _ _ 0 _ _ _ (hSq.trans K0.out); go_simp <;> first | with_reducible rfl | rfl)
      simp only [Act.put, List.setIfInBounds_toArray, List.set_cons_zero, List.set_cons_succ]
      refine take_on (i := 19) (v := ?_) rfl rfl (by kernel_rfl) (by kernel_rfl) (by kernel_rfl) (fun _ _ _ h => h) rfl ?_ hHeld ?_
      rotate_left
      · (intro wq hSq; have s0 := cell_of_row _ _ 0 _ _ _ (hSq.trans K0.out); go_simp <;> first | with_reducible rfl | rfl)
      simp only [Act.put, List.setIfInBounds_toArray, List.set_cons_zero, List.set_cons_succ]
      refine wpAnyH_done (by kernel_rfl) ?_ _
      have hbq : Below W.heap.size W W.drew := (Below.refl _ _).drew
      obtain ⟨Wq, hWq⟩ : ∃ Wq, Wq = W.drew := ⟨_, rfl⟩
      rw [← hWq] at hbq ⊢
      clear hWq
      have kq := (hbq.block w.heap.size hwlt).trans K0.out
      have hsq := src_row (e' := 76) Try.underlying61 (cap := cap) (HRow.out.below hbq) HNil.out
      rw [HC2.out] at hsq
      have hzq := hbq.size
      have HBq := hide_it hbq
      clear hbq
      go_wp2_with (at_builtin; refine stopHere ?_)
      unfold Hid
      refine wpList_append_S rfl _ _ 61 61 rfl (.agg #[.int .i64 0, .string ⟨#[]⟩, .bool false]) Try.underlying61 infoD rfl rfl (OwnS.nil Wq Wq.heap.size 76 3) _ rfl _ _ hsq (by unfold maxLen; omega) (by omega) (Nat.le_refl _) ?_
      intro v3 w3 ho3 hg3 _
      have hb3 : Below Wq.heap.size Wq w3 := (Below.refl Wq.heap.size Wq).grown hg3 (Nat.le_refl _) (fun j e => by cases e)
      have ho3' : OwnS w3 Wq.heap.size 76 3 v3 xs.length (celL xs) := by rw [HC2.out]; simpa using ho3
      have k3 := (hb3.block w.heap.size (by omega)).trans kq
      have x0 : w3.cell? ⟨w.heap.size, 0, none⟩ = some (.int .i64 x.n) := cell_of_row _ _ _ _ _ _ k3
      have x1 : w3.cell? ⟨w.heap.size, 1, none⟩ = some (.string x.v) := cell_of_row _ _ _ _ _ _ k3
      have x2 : w3.cell? ⟨w.heap.size, 2, none⟩ = some (.bool x.d) := cell_of_row _ _ _ _ _ _ k3
      have hb4 : Below w3.heap.size w3 (w3.alloc (.cells #[.int .i64 x.n, .string x.v, .bool x.d] 76)) := (Below.refl _ _).alloc (Nat.le_refl _) _
      have ho4 := ho3'.below hb4
      have hs4 := src_one (e' := 76) Try.underlying61 w3 x 76
      have hz3 := hb3.size
      have HB3 := hide_it (HBq.out.trans (hb3.mono hzq))
      have HI3 := hide_it ho3'.inside
      have hzw : w.heap.size ≤ W.heap.size := by omega
      clear hsq ho3 hg3 ho3' kq k3 hb3
      go_wp2_with (at_builtin; refine stopHere ?_)
      unfold Hid
      refine wpList_append_S rfl _ _ 61 61 rfl (.agg #[.int .i64 0, .string ⟨#[]⟩, .bool false]) Try.underlying61 infoD rfl rfl ho4 _ rfl 1 _ hs4 (by unfold maxLen; omega) (by omega) (by have := hb4.size; omega) ?_
      intro v5 w5 ho5 hg5 _
      have HO : Hid (OwnS w5 Wq.heap.size 76 3 v5 (addL xs x).length (celL (addL xs x))) := by
        rw [(HE2.out HR.out).2, List.length_append, celL_append, celL_one]
        exact hide_it ho5
      have HB5 : Hid (Below w.heap.size w w5) := hide_it ((((HB0.out.trans (HB3.out.mono hzw)).trans (hb4.mono (by omega))).grown hg5 (by simp; omega) (fun j e => by have := (HI3.out j e).1; omega)))
      have HN : Hid (∀ j, v5.ownBlock = some j → w.heap.size ≤ j) := hide_it fun j hj => by have := (HO.out.inside j hj).1; omega
      clear ho5 hg5 ho4 hs4 hb4 x0 x1 x2
      go_wp2
      go_ret2
      exact ⟨v5, by rw [(HE2.out HR.out).1] <;> rfl, HO.out.mono (Nat.zero_le _), .inr HN.out, HB5.out⟩
    · obtain ⟨m, hm⟩ : ∃ m, xs.length = m + 1 := ⟨xs.length - 1, by omega⟩
      obtain ⟨b, o, rfl, hb, d0, _, _⟩ := HRow.out.here (i := m) (by omega)
      have hlast : lk xs (xs.length - 1) = lk xs m := by rw [hm]; rfl
      have HM := hide_it hm
      have hwm : IntKind.i64.wrap (m : Int) = (m : Int) := by have := LN.out; exact i64_in (by omega) (by omega)
      have hmi : (m : Int) < (m : Int) + 1 := by omega
      have hm0 : decide (0 < (m : Int) + 1) = true := decide_eq_true (by omega)
      obtain ⟨z, hz⟩ : ∃ z, z = (lk xs m).n := ⟨_, rfl⟩
      rw [← hz] at d0
      by_cases c3 : x.n ≤ z
      · have d3 : decide (x.n ≤ z) = true := decide_eq_true c3
        have hr : refu xs x := .inr ⟨by omega, by rw [hlast, ← hz]; exact c3⟩
        have HR := hide_it hr
        rw [hm] at NO ⊢
        clear hr hm hlast hz c2
        go_enter Try.func28, Try.ntmps28
        go_wp2_with fail
        rw [← HW.out]
        refine wp_region_held_drew (S := (fun w' => w'.heap[w.heap.size]? = W.heap[w.heap.size]? ∧ w'.heap[b]? = W.heap[b]?)) (by kernel_rfl) ?_ (fun hHeld => ?_)
        · exact ⟨rfl, rfl⟩
        refine take_on (i := 0) (v := ?_) rfl rfl (by kernel_rfl) (by kernel_rfl) (by kernel_rfl) (fun _ _ _ h => h) rfl ?_ hHeld ?_
        rotate_left
        · (intro wq hSq; have s0 := cell_of_row _ _ 0 _ _ _ (hSq.1.trans K0.out); have s1 := (World.cell?_of_block (w := W) (a := ⟨b, o + m * 3, none⟩) hSq.2).trans d0; go_simp <;> first | with_reducible rfl | rfl)
        simp only [Act.put, List.setIfInBounds_toArray, List.set_cons_zero, List.set_cons_succ]
        refine take_on (i := 1) (v := ?_) rfl rfl (by kernel_rfl) (by kernel_rfl) (by kernel_rfl) (fun _ _ _ h => h) rfl ?_ hHeld ?_
        rotate_left
        · (intro wq hSq; have s0 := cell_of_row _ _ 0 _ _ _ (hSq.1.trans K0.out); have s1 := (World.cell?_of_block (w := W) (a := ⟨b, o + m * 3, none⟩) hSq.2).trans d0; go_simp <;> first | with_reducible rfl | rfl)
        simp only [Act.put, List.setIfInBounds_toArray, List.set_cons_zero, List.set_cons_succ]
        refine take_on (i := 2) (v := ?_) rfl rfl (by kernel_rfl) (by kernel_rfl) (by kernel_rfl) (fun _ _ _ h => h) rfl ?_ hHeld ?_
        rotate_left
        · (intro wq hSq; have s0 := cell_of_row _ _ 0 _ _ _ (hSq.1.trans K0.out); have s1 := (World.cell?_of_block (w := W) (a := ⟨b, o + m * 3, none⟩) hSq.2).trans d0; go_simp <;> first | with_reducible rfl | rfl)
        simp only [Act.put, List.setIfInBounds_toArray, List.set_cons_zero, List.set_cons_succ]
        refine take_on (i := 3) (v := ?_) rfl rfl (by kernel_rfl) (by kernel_rfl) (by kernel_rfl) (fun _ _ _ h => h) rfl ?_ hHeld ?_
        rotate_left
        · (intro wq hSq; have s0 := cell_of_row _ _ 0 _ _ _ (hSq.1.trans K0.out); have s1 := (World.cell?_of_block (w := W) (a := ⟨b, o + m * 3, none⟩) hSq.2).trans d0; go_simp <;> first | with_reducible rfl | rfl)
        simp only [Act.put, List.setIfInBounds_toArray, List.set_cons_zero, List.set_cons_succ]
        refine take_on (i := 4) (v := ?_) rfl rfl (by kernel_rfl) (by kernel_rfl) (by kernel_rfl) (fun _ _ _ h => h) rfl ?_ hHeld ?_
        rotate_left
        · (intro wq hSq; have s0 := cell_of_row _ _ 0 _ _ _ (hSq.1.trans K0.out); have s1 := (World.cell?_of_block (w := W) (a := ⟨b, o + m * 3, none⟩) hSq.2).trans d0; go_simp <;> first | with_reducible rfl | rfl)
        simp only [Act.put, List.setIfInBounds_toArray, List.set_cons_zero, List.set_cons_succ]
        refine take_on (i := 5) (v := ?_) rfl rfl (by kernel_rfl) (by kernel_rfl) (by kernel_rfl) (fun _ _ _ h => h) rfl ?_ hHeld ?_
        rotate_left
        · (intro wq hSq; have s0 := cell_of_row _ _ 0 _ _ _ (hSq.1.trans K0.out); have s1 := (World.cell?_of_block (w := W) (a := ⟨b, o + m * 3, none⟩) hSq.2).trans d0; go_simp <;> first | with_reducible rfl | rfl)
        simp only [Act.put, List.setIfInBounds_toArray, List.set_cons_zero, List.set_cons_succ]
        refine take_on (i := 6) (v := ?_) rfl rfl (by kernel_rfl) (by kernel_rfl) (by kernel_rfl) (fun _ _ _ h => h) rfl ?_ hHeld ?_
        rotate_left
        · (intro wq hSq; have s0 := cell_of_row _ _ 0 _ _ _ (hSq.1.trans K0.out); have s1 := (World.cell?_of_block (w := W) (a := ⟨b, o + m * 3, none⟩) hSq.2).trans d0; go_simp <;> first | with_reducible rfl | rfl)
        simp only [Act.put, List.setIfInBounds_toArray, List.set_cons_zero, List.set_cons_succ]
        refine take_on (i := 7) (v := ?_) rfl rfl (by kernel_rfl) (by kernel_rfl) (by kernel_rfl) (fun _ _ _ h => h) rfl ?_ hHeld ?_
        rotate_left
        · (intro wq hSq; have s0 := cell_of_row _ _ 0 _ _ _ (hSq.1.trans K0.out); have s1 := (World.cell?_of_block (w := W) (a := ⟨b, o + m * 3, none⟩) hSq.2).trans d0; go_simp <;> first | with_reducible rfl | rfl)
        simp only [Act.put, List.setIfInBounds_toArray, List.set_cons_zero, List.set_cons_succ]
        refine take_on (i := 8) (v := ?_) rfl rfl (by kernel_rfl) (by kernel_rfl) (by kernel_rfl) (fun _ _ _ h => h) rfl ?_ hHeld ?_
        rotate_left
        · (intro wq hSq; have s0 := cell_of_row _ _ 0 _ _ _ (hSq.1.trans K0.out); have s1 := (World.cell?_of_block (w := W) (a := ⟨b, o + m * 3, none⟩) hSq.2).trans d0; go_simp <;> first | with_reducible rfl | rfl)
        simp only [Act.put, List.setIfInBounds_toArray, List.set_cons_zero, List.set_cons_succ]
        refine take_on (i := 9) (v := ?_) rfl rfl (by kernel_rfl) (by kernel_rfl) (by kernel_rfl) (fun _ _ _ h => h) rfl ?_ hHeld ?_
        rotate_left
        · (intro wq hSq; have s0 := cell_of_row _ _ 0 _ _ _ (hSq.1.trans K0.out); have s1 := (World.cell?_of_block (w := W) (a := ⟨b, o + m * 3, none⟩) hSq.2).trans d0; go_simp <;> first | with_reducible rfl | rfl)
        simp only [Act.put, List.setIfInBounds_toArray, List.set_cons_zero, List.set_cons_succ]
        refine take_on (i := 10) (v := ?_) rfl rfl (by kernel_rfl) (by kernel_rfl) (by kernel_rfl) (fun _ _ _ h => h) rfl ?_ hHeld ?_
        rotate_left
        · (intro wq hSq; have s0 := cell_of_row _ _ 0 _ _ _ (hSq.1.trans K0.out); have s1 := (World.cell?_of_block (w := W) (a := ⟨b, o + m * 3, none⟩) hSq.2).trans d0; go_simp <;> first | with_reducible rfl | rfl)
        simp only [Act.put, List.setIfInBounds_toArray, List.set_cons_zero, List.set_cons_succ]
        refine take_on (i := 11) (v := ?_) rfl rfl (by kernel_rfl) (by kernel_rfl) (by kernel_rfl) (fun _ _ _ h => h) rfl ?_ hHeld ?_
        rotate_left
        · (intro wq hSq; have s0 := cell_of_row _ _ 0 _ _ _ (hSq.1.trans K0.out); have s1 := (World.cell?_of_block (w := W) (a := ⟨b, o + m * 3, none⟩) hSq.2).trans d0; go_simp <;> first | with_reducible rfl | rfl)
        simp only [Act.put, List.setIfInBounds_toArray, List.set_cons_zero, List.set_cons_succ]
        refine take_on (i := 12) (v := ?_) rfl rfl (by kernel_rfl) (by kernel_rfl) (by kernel_rfl) (fun _ _ _ h => h) rfl ?_ hHeld ?_
        rotate_left
        · (intro wq hSq; have s0 := cell_of_row _ _ 0 _ _ _ (hSq.1.trans K0.out); have s1 := (World.cell?_of_block (w := W) (a := ⟨b, o + m * 3, none⟩) hSq.2).trans d0; go_simp <;> first | with_reducible rfl | rfl)
        simp only [Act.put, List.setIfInBounds_toArray, List.set_cons_zero, List.set_cons_succ]
        refine take_on (i := 13) (v := ?_) rfl rfl (by kernel_rfl) (by kernel_rfl) (by kernel_rfl) (fun _ _ _ h => h) rfl ?_ hHeld ?_
        rotate_left
        · (intro wq hSq; have s0 := cell_of_row _ _ 0 _ _ _ (hSq.1.trans K0.out); have s1 := (World.cell?_of_block (w := W) (a := ⟨b, o + m * 3, none⟩) hSq.2).trans d0; go_simp <;> first | with_reducible rfl | rfl)
        simp only [Act.put, List.setIfInBounds_toArray, List.set_cons_zero, List.set_cons_succ]
        refine take_on (i := 14) (v := ?_) rfl rfl (by kernel_rfl) (by kernel_rfl) (by kernel_rfl) (fun _ _ _ h => h) rfl ?_ hHeld ?_
        rotate_left
        · (intro wq hSq; have s0 := cell_of_row _ _ 0 _ _ _ (hSq.1.trans K0.out); have s1 := (World.cell?_of_block (w := W) (a := ⟨b, o + m * 3, none⟩) hSq.2).trans d0; go_simp <;> first | with_reducible rfl | rfl)
        simp only [Act.put, List.setIfInBounds_toArray, List.set_cons_zero, List.set_cons_succ]
        refine take_on (i := 15) (v := ?_) rfl rfl (by kernel_rfl) (by kernel_rfl) (by kernel_rfl) (fun _ _ _ h => h) rfl ?_ hHeld ?_
        rotate_left
        · (intro wq hSq; have s0 := cell_of_row _ _ 0 _ _ _ (hSq.1.trans K0.out); have s1 := (World.cell?_of_block (w := W) (a := ⟨b, o + m * 3, none⟩) hSq.2).trans d0; go_simp <;> first | with_reducible rfl | rfl)
        simp only [Act.put, List.setIfInBounds_toArray, List.set_cons_zero, List.set_cons_succ]
        refine take_on (i := 16) (v := ?_) rfl rfl (by kernel_rfl) (by kernel_rfl) (by kernel_rfl) (fun _ _ _ h => h) rfl ?_ hHeld ?_
        rotate_left
        · (intro wq hSq; have s0 := cell_of_row _ _ 0 _ _ _ (hSq.1.trans K0.out); have s1 := (World.cell?_of_block (w := W) (a := ⟨b, o + m * 3, none⟩) hSq.2).trans d0; go_simp <;> first | with_reducible rfl | rfl)
        simp only [Act.put, List.setIfInBounds_toArray, List.set_cons_zero, List.set_cons_succ]
        refine take_on (i := 17) (v := ?_) rfl rfl (by kernel_rfl) (by kernel_rfl) (by kernel_rfl) (fun _ _ _ h => h) rfl ?_ hHeld ?_
        rotate_left
        · (intro wq hSq; have s0 := cell_of_row _ _ 0 _ _ _ (hSq.1.trans K0.out); have s1 := (World.cell?_of_block (w := W) (a := ⟨b, o + m * 3, none⟩) hSq.2).trans d0; go_simp <;> first | with_reducible rfl | rfl)
        simp only [Act.put, List.setIfInBounds_toArray, List.set_cons_zero, List.set_cons_succ]
        refine take_on (i := 18) (v := ?_) rfl rfl (by kernel_rfl) (by kernel_rfl) (by kernel_rfl) (fun _ _ _ h => h) rfl ?_ hHeld ?_
        rotate_left
        · (intro wq hSq; have s0 := cell_of_row _ _ 0 _ _ _ (hSq.1.trans K0.out); have s1 := (World.cell?_of_block (w := W) (a := ⟨b, o + m * 3, none⟩) hSq.2).trans d0; go_simp <;> first | with_reducible rfl | rfl)
        simp only [Act.put, List.setIfInBounds_toArray, List.set_cons_zero, List.set_cons_succ]
        refine take_on (i := 19) (v := ?_) rfl rfl (by kernel_rfl) (by kernel_rfl) (by kernel_rfl) (fun _ _ _ h => h) rfl ?_ hHeld ?_
        rotate_left
        · (intro wq hSq; have s0 := cell_of_row _ _ 0 _ _ _ (hSq.1.trans K0.out); have s1 := (World.cell?_of_block (w := W) (a := ⟨b, o + m * 3, none⟩) hSq.2).trans d0; go_simp <;> first | with_reducible rfl | rfl)
        simp only [Act.put, List.setIfInBounds_toArray, List.set_cons_zero, List.set_cons_succ]
        refine wpAnyH_done (by kernel_rfl) ?_ _
        go_wp2
        go_ret2
        exact NO.out HR.out _ (Below.refl _ _).drew
      · have d3 : decide (x.n ≤ z) = false := decide_eq_false c3
        have hr : ¬ refu xs x := fun e => by unfold refu at e; rw [hlast, ← hz] at e; omega
        have HR := hide_it hr
        rw [hm] at NO ⊢
        clear hr hm hlast hz c2
        go_enter Try.func28, Try.ntmps28
        go_wp2_with fail
        rw [← HW.out]
        refine wp_region_held_drew (S := (fun w' => w'.heap[w.heap.size]? = W.heap[w.heap.size]? ∧ w'.heap[b]? = W.heap[b]?)) (by kernel_rfl) ?_ (fun hHeld => ?_)
        · exact ⟨rfl, rfl⟩
        refine take_on (i := 0) (v := ?_) rfl rfl (by kernel_rfl) (by kernel_rfl) (by kernel_rfl) (fun _ _ _ h => h) rfl ?_ hHeld ?_
        rotate_left
        · (intro wq hSq; have s0 := cell_of_row _ _ 0 _ _ _ (hSq.1.trans K0.out); have s1 := (World.cell?_of_block (w := W) (a := ⟨b, o + m * 3, none⟩) hSq.2).trans d0; go_simp <;> first | with_reducible rfl | rfl)
        simp only [Act.put, List.setIfInBounds_toArray, List.set_cons_zero, List.set_cons_succ]
        refine take_on (i := 1) (v := ?_) rfl rfl (by kernel_rfl) (by kernel_rfl) (by kernel_rfl) (fun _ _ _ h => h) rfl ?_ hHeld ?_
        rotate_left
        · (intro wq hSq; have s0 := cell_of_row _ _ 0 _ _ _ (hSq.1.trans K0.out); have s1 := (World.cell?_of_block (w := W) (a := ⟨b, o + m * 3, none⟩) hSq.2).trans d0; go_simp <;> first | with_reducible rfl | rfl)
        simp only [Act.put, List.setIfInBounds_toArray, List.set_cons_zero, List.set_cons_succ]
        refine take_on (i := 2) (v := ?_) rfl rfl (by kernel_rfl) (by kernel_rfl) (by kernel_rfl) (fun _ _ _ h => h) rfl ?_ hHeld ?_
        rotate_left
        · (intro wq hSq; have s0 := cell_of_row _ _ 0 _ _ _ (hSq.1.trans K0.out); have s1 := (World.cell?_of_block (w := W) (a := ⟨b, o + m * 3, none⟩) hSq.2).trans d0; go_simp <;> first | with_reducible rfl | rfl)
        simp only [Act.put, List.setIfInBounds_toArray, List.set_cons_zero, List.set_cons_succ]
        refine take_on (i := 3) (v := ?_) rfl rfl (by kernel_rfl) (by kernel_rfl) (by kernel_rfl) (fun _ _ _ h => h) rfl ?_ hHeld ?_
        rotate_left
        · (intro wq hSq; have s0 := cell_of_row _ _ 0 _ _ _ (hSq.1.trans K0.out); have s1 := (World.cell?_of_block (w := W) (a := ⟨b, o + m * 3, none⟩) hSq.2).trans d0; go_simp <;> first | with_reducible rfl | rfl)
        simp only [Act.put, List.setIfInBounds_toArray, List.set_cons_zero, List.set_cons_succ]
        refine take_on (i := 4) (v := ?_) rfl rfl (by kernel_rfl) (by kernel_rfl) (by kernel_rfl) (fun _ _ _ h => h) rfl ?_ hHeld ?_
        rotate_left
        · (intro wq hSq; have s0 := cell_of_row _ _ 0 _ _ _ (hSq.1.trans K0.out); have s1 := (World.cell?_of_block (w := W) (a := ⟨b, o + m * 3, none⟩) hSq.2).trans d0; go_simp <;> first | with_reducible rfl | rfl)
        simp only [Act.put, List.setIfInBounds_toArray, List.set_cons_zero, List.set_cons_succ]
        refine take_on (i := 5) (v := ?_) rfl rfl (by kernel_rfl) (by kernel_rfl) (by kernel_rfl) (fun _ _ _ h => h) rfl ?_ hHeld ?_
        rotate_left
        · (intro wq hSq; have s0 := cell_of_row _ _ 0 _ _ _ (hSq.1.trans K0.out); have s1 := (World.cell?_of_block (w := W) (a := ⟨b, o + m * 3, none⟩) hSq.2).trans d0; go_simp <;> first | with_reducible rfl | rfl)
        simp only [Act.put, List.setIfInBounds_toArray, List.set_cons_zero, List.set_cons_succ]
        refine take_on (i := 6) (v := ?_) rfl rfl (by kernel_rfl) (by kernel_rfl) (by kernel_rfl) (fun _ _ _ h => h) rfl ?_ hHeld ?_
        rotate_left
        · (intro wq hSq; have s0 := cell_of_row _ _ 0 _ _ _ (hSq.1.trans K0.out); have s1 := (World.cell?_of_block (w := W) (a := ⟨b, o + m * 3, none⟩) hSq.2).trans d0; go_simp <;> first | with_reducible rfl | rfl)
        simp only [Act.put, List.setIfInBounds_toArray, List.set_cons_zero, List.set_cons_succ]
        refine take_on (i := 7) (v := ?_) rfl rfl (by kernel_rfl) (by kernel_rfl) (by kernel_rfl) (fun _ _ _ h => h) rfl ?_ hHeld ?_
        rotate_left
        · (intro wq hSq; have s0 := cell_of_row _ _ 0 _ _ _ (hSq.1.trans K0.out); have s1 := (World.cell?_of_block (w := W) (a := ⟨b, o + m * 3, none⟩) hSq.2).trans d0; go_simp <;> first | with_reducible rfl | rfl)
        simp only [Act.put, List.setIfInBounds_toArray, List.set_cons_zero, List.set_cons_succ]
        refine take_on (i := 8) (v := ?_) rfl rfl (by kernel_rfl) (by kernel_rfl) (by kernel_rfl) (fun _ _ _ h => h) rfl ?_ hHeld ?_
        rotate_left
        · (intro wq hSq; have s0 := cell_of_row _ _ 0 _ _ _ (hSq.1.trans K0.out); have s1 := (World.cell?_of_block (w := W) (a := ⟨b, o + m * 3, none⟩) hSq.2).trans d0; go_simp <;> first | with_reducible rfl | rfl)
        simp only [Act.put, List.setIfInBounds_toArray, List.set_cons_zero, List.set_cons_succ]
        refine take_on (i := 9) (v := ?_) rfl rfl (by kernel_rfl) (by kernel_rfl) (by kernel_rfl) (fun _ _ _ h => h) rfl ?_ hHeld ?_
        rotate_left
        · (intro wq hSq; have s0 := cell_of_row _ _ 0 _ _ _ (hSq.1.trans K0.out); have s1 := (World.cell?_of_block (w := W) (a := ⟨b, o + m * 3, none⟩) hSq.2).trans d0; go_simp <;> first | with_reducible rfl | rfl)
        simp only [Act.put, List.setIfInBounds_toArray, List.set_cons_zero, List.set_cons_succ]
        refine take_on (i := 10) (v := ?_) rfl rfl (by kernel_rfl) (by kernel_rfl) (by kernel_rfl) (fun _ _ _ h => h) rfl ?_ hHeld ?_
        rotate_left
        · (intro wq hSq; have s0 := cell_of_row _ _ 0 _ _ _ (hSq.1.trans K0.out); have s1 := (World.cell?_of_block (w := W) (a := ⟨b, o + m * 3, none⟩) hSq.2).trans d0; go_simp <;> first | with_reducible rfl | rfl)
        simp only [Act.put, List.setIfInBounds_toArray, List.set_cons_zero, List.set_cons_succ]
        refine take_on (i := 11) (v := ?_) rfl rfl (by kernel_rfl) (by kernel_rfl) (by kernel_rfl) (fun _ _ _ h => h) rfl ?_ hHeld ?_
        rotate_left
        · (intro wq hSq; have s0 := cell_of_row _ _ 0 _ _ _ (hSq.1.trans K0.out); have s1 := (World.cell?_of_block (w := W) (a := ⟨b, o + m * 3, none⟩) hSq.2).trans d0; go_simp <;> first | with_reducible rfl | rfl)
        simp only [Act.put, List.setIfInBounds_toArray, List.set_cons_zero, List.set_cons_succ]
        refine take_on (i := 12) (v := ?_) rfl rfl (by kernel_rfl) (by kernel_rfl) (by kernel_rfl) (fun _ _ _ h => h) rfl ?_ hHeld ?_
        rotate_left
        · (intro wq hSq; have s0 := cell_of_row _ _ 0 _ _ _ (hSq.1.trans K0.out); have s1 := (World.cell?_of_block (w := W) (a := ⟨b, o + m * 3, none⟩) hSq.2).trans d0; go_simp <;> first | with_reducible rfl | rfl)
        simp only [Act.put, List.setIfInBounds_toArray, List.set_cons_zero, List.set_cons_succ]
        refine take_on (i := 13) (v := ?_) rfl rfl (by kernel_rfl) (by kernel_rfl) (by kernel_rfl) (fun _ _ _ h => h) rfl ?_ hHeld ?_
        rotate_left
        · (intro wq hSq; have s0 := cell_of_row _ _ 0 _ _ _ (hSq.1.trans K0.out); have s1 := (World.cell?_of_block (w := W) (a := ⟨b, o + m * 3, none⟩) hSq.2).trans d0; go_simp <;> first | with_reducible rfl | rfl)
        simp only [Act.put, List.setIfInBounds_toArray, List.set_cons_zero, List.set_cons_succ]
        refine take_on (i := 14) (v := ?_) rfl rfl (by kernel_rfl) (by kernel_rfl) (by kernel_rfl) (fun _ _ _ h => h) rfl ?_ hHeld ?_
        rotate_left
        · (intro wq hSq; have s0 := cell_of_row _ _ 0 _ _ _ (hSq.1.trans K0.out); have s1 := (World.cell?_of_block (w := W) (a := ⟨b, o + m * 3, none⟩) hSq.2).trans d0; go_simp <;> first | with_reducible rfl | rfl)
        simp only [Act.put, List.setIfInBounds_toArray, List.set_cons_zero, List.set_cons_succ]
        refine take_on (i := 15) (v := ?_) rfl rfl (by kernel_rfl) (by kernel_rfl) (by kernel_rfl) (fun _ _ _ h => h) rfl ?_ hHeld ?_
        rotate_left
        · (intro wq hSq; have s0 := cell_of_row _ _ 0 _ _ _ (hSq.1.trans K0.out); have s1 := (World.cell?_of_block (w := W) (a := ⟨b, o + m * 3, none⟩) hSq.2).trans d0; go_simp <;> first | with_reducible rfl | rfl)
        simp only [Act.put, List.setIfInBounds_toArray, List.set_cons_zero, List.set_cons_succ]
        refine take_on (i := 16) (v := ?_) rfl rfl (by kernel_rfl) (by kernel_rfl) (by kernel_rfl) (fun _ _ _ h => h) rfl ?_ hHeld ?_
        rotate_left
        · (intro wq hSq; have s0 := cell_of_row _ _ 0 _ _ _ (hSq.1.trans K0.out); have s1 := (World.cell?_of_block (w := W) (a := ⟨b, o + m * 3, none⟩) hSq.2).trans d0; go_simp <;> first | with_reducible rfl | rfl)
        simp only [Act.put, List.setIfInBounds_toArray, List.set_cons_zero, List.set_cons_succ]
        refine take_on (i := 17) (v := ?_) rfl rfl (by kernel_rfl) (by kernel_rfl) (by kernel_rfl) (fun _ _ _ h => h) rfl ?_ hHeld ?_
        rotate_left
        · (intro wq hSq; have s0 := cell_of_row _ _ 0 _ _ _ (hSq.1.trans K0.out); have s1 := (World.cell?_of_block (w := W) (a := ⟨b, o + m * 3, none⟩) hSq.2).trans d0; go_simp <;> first | with_reducible rfl | rfl)
        simp only [Act.put, List.setIfInBounds_toArray, List.set_cons_zero, List.set_cons_succ]
        refine take_on (i := 18) (v := ?_) rfl rfl (by kernel_rfl) (by kernel_rfl) (by kernel_rfl) (fun _ _ _ h => h) rfl ?_ hHeld ?_
        rotate_left
        · (intro wq hSq; have s0 := cell_of_row _ _ 0 _ _ _ (hSq.1.trans K0.out); have s1 := (World.cell?_of_block (w := W) (a := ⟨b, o + m * 3, none⟩) hSq.2).trans d0; go_simp <;> first | with_reducible rfl | rfl)
        simp only [Act.put, List.setIfInBounds_toArray, List.set_cons_zero, List.set_cons_succ]
        refine take_on (i := 19) (v := ?_) rfl rfl (by kernel_rfl) (by kernel_rfl) (by kernel_rfl) (fun _ _ _ h => h) rfl ?_ hHeld ?_
        rotate_left
        · (intro wq hSq; have s0 := cell_of_row _ _ 0 _ _ _ (hSq.1.trans K0.out); have s1 := (World.cell?_of_block (w := W) (a := ⟨b, o + m * 3, none⟩) hSq.2).trans d0; go_simp <;> first | with_reducible rfl | rfl)
        simp only [Act.put, List.setIfInBounds_toArray, List.set_cons_zero, List.set_cons_succ]
        refine wpAnyH_done (by kernel_rfl) ?_ _
        have hbq : Below W.heap.size W W.drew := (Below.refl _ _).drew
        obtain ⟨Wq, hWq⟩ : ∃ Wq, Wq = W.drew := ⟨_, rfl⟩
        rw [← hWq] at hbq ⊢
        clear hWq
        have kq := (hbq.block w.heap.size hwlt).trans K0.out
        have hsq := src_row (e' := 76) Try.underlying61 (cap := cap) (HRow.out.below hbq) HNil.out
        rw [HM.out] at hsq
        have hLN := LN.out
        rw [HM.out] at hLN
        have hzq := hbq.size
        have HBq := hide_it hbq
        clear hbq
        go_wp2_with (at_builtin; refine stopHere ?_)
        unfold Hid
        refine wpList_append_S rfl _ _ 61 61 rfl (.agg #[.int .i64 0, .string ⟨#[]⟩, .bool false]) Try.underlying61 infoD rfl rfl (OwnS.nil Wq Wq.heap.size 76 3) _ rfl _ _ hsq (by unfold maxLen; omega) (by omega) (Nat.le_refl _) ?_
        intro v3 w3 ho3 hg3 _
        have hb3 : Below Wq.heap.size Wq w3 := (Below.refl Wq.heap.size Wq).grown hg3 (Nat.le_refl _) (fun j e => by cases e)
        have ho3' : OwnS w3 Wq.heap.size 76 3 v3 xs.length (celL xs) := by rw [HM.out]; simpa using ho3
        have k3 := (hb3.block w.heap.size (by omega)).trans kq
        have x0 : w3.cell? ⟨w.heap.size, 0, none⟩ = some (.int .i64 x.n) := cell_of_row _ _ _ _ _ _ k3
        have x1 : w3.cell? ⟨w.heap.size, 1, none⟩ = some (.string x.v) := cell_of_row _ _ _ _ _ _ k3
        have x2 : w3.cell? ⟨w.heap.size, 2, none⟩ = some (.bool x.d) := cell_of_row _ _ _ _ _ _ k3
        have hb4 : Below w3.heap.size w3 (w3.alloc (.cells #[.int .i64 x.n, .string x.v, .bool x.d] 76)) := (Below.refl _ _).alloc (Nat.le_refl _) _
        have ho4 := ho3'.below hb4
        have hs4 := src_one (e' := 76) Try.underlying61 w3 x 76
        have hz3 := hb3.size
        have HB3 := hide_it (HBq.out.trans (hb3.mono hzq))
        have HI3 := hide_it ho3'.inside
        have hzw : w.heap.size ≤ W.heap.size := by omega
        clear hsq ho3 hg3 ho3' kq k3 hb3
        go_wp2_with (at_builtin; refine stopHere ?_)
        unfold Hid
        refine wpList_append_S rfl _ _ 61 61 rfl (.agg #[.int .i64 0, .string ⟨#[]⟩, .bool false]) Try.underlying61 infoD rfl rfl ho4 _ rfl 1 _ hs4 (by unfold maxLen; omega) (by omega) (by have := hb4.size; omega) ?_
        intro v5 w5 ho5 hg5 _
        have HO : Hid (OwnS w5 Wq.heap.size 76 3 v5 (addL xs x).length (celL (addL xs x))) := by
          rw [(HE2.out HR.out).2, List.length_append, celL_append, celL_one]
          exact hide_it ho5
        have HB5 : Hid (Below w.heap.size w w5) := hide_it ((((HB0.out.trans (HB3.out.mono hzw)).trans (hb4.mono (by omega))).grown hg5 (by simp; omega) (fun j e => by have := (HI3.out j e).1; omega)))
        have HN : Hid (∀ j, v5.ownBlock = some j → w.heap.size ≤ j) := hide_it fun j hj => by have := (HO.out.inside j hj).1; omega
        clear ho5 hg5 ho4 hs4 hb4 x0 x1 x2
        go_wp2
        go_ret2
        exact ⟨v5, by rw [(HE2.out HR.out).1] <;> rfl, HO.out.mono (Nat.zero_le _), .inr HN.out, HB5.out⟩

end Go.Proofs.Ytncmnhomloanaab
