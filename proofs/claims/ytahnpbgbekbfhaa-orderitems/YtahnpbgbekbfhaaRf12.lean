/- The document's answer: an item in its one form. -/
import Derived.Test.YtahnpbgbekbfhaaRf6
import Derived.Test.YtahnpbgbekbfhaaRf9
namespace Go.Proofs.Ytahnpbgbekbfhaa
open Go.RowKit

section
variable {ops : Array Oper} {Q : Exit → Act → World → Prop} {S : World → Prop}

/-- The steps that may come up, each on its own. -/
theorem ready_each {rs : List Nat} {fuel : Nat} {listed : Array Bool} {a : Act} {w : World} (hr : Region.ready .any ops listed = rs) (hne : rs ≠ [])
    (h : ∀ i ∈ rs, ∃ o, ops.toList[i]? = some o ∧ ∀ K' : Act → World → Prop, Shut (∀ a w, S w → (S w → wpAnyH Try.prog .any ops Q S fuel (listed.setIfInBounds i true) a w) → K' a w) → if Region.wanted o (yielded ops a.tmps) = true then Oper.wp Try.prog o a w K' Q else K' (a.put o.dst undef) w) :
    wpAnyH Try.prog .any ops Q S (fuel + 1) listed a w :=
  wpAnyH_ready hr hne fun i hi => by
    obtain ⟨o, ho, h2⟩ := h i hi
    exact (AllReadyH.cons (get_of_list ho) h2 AllReadyH.nil) i (List.mem_singleton.2 rfl)

def actC (x : It) (b : Nat) (v8 v9 v11 v12 v14 v15 v16 : Value) : Act := { tmps := #[(valR x), .pointer (some ⟨b, 0, none⟩), .pointer (some ⟨b + 1, 0, none⟩), (valR x), .int .i64 0, .bool false, undef, .pointer (some ⟨b, 3, none⟩), v8, v9, .pointer (some ⟨b, 4, none⟩), v11, v12, .pointer (some ⟨b, 5, none⟩), v14, v15, v16, undef, undef, undef], defers := [] }
def lstC (l1 l4 l7 c2 c5 c8 d9 : Bool) : Array Bool := #[true, l1, c2, true, l4, c5, true, l7, c8, d9, false, false, false, false, false]
def rdyC (l1 l4 l7 c2 c5 c8 d9 : Bool) : List Nat := (if l1 then (if c2 then [] else [2]) else [1]) ++ (if l4 then (if c2 && !c5 then [5] else []) else [4]) ++ (if l7 then (if c5 && !c8 then [8] else []) else [7]) ++ (if l1 && l4 && l7 && c2 && !d9 then [9] else [])
def okC (l1 l4 l7 c2 c5 c8 d9 : Bool) : Bool := (!c2 || l1) && (!c5 || (l4 && c2)) && (!c8 || (l7 && c5)) && (!d9 || (l1 && l4 && l7 && c2))
theorem rdyC_ne : ∀ l1 l4 l7 c2 c5 c8 d9 : Bool, okC l1 l4 l7 c2 c5 c8 d9 = true → (c8 && d9) = false → rdyC l1 l4 l7 c2 c5 c8 d9 ≠ [] := by decide
theorem rdyC_mem {l1 l4 l7 c2 c5 c8 d9 : Bool} {i : Nat} (h : i ∈ rdyC l1 l4 l7 c2 c5 c8 d9) : (i = 1 ∧ l1 = false) ∨ (i = 4 ∧ l4 = false) ∨ (i = 7 ∧ l7 = false) ∨ (i = 2 ∧ l1 = true ∧ c2 = false) ∨ (i = 5 ∧ l4 = true ∧ c2 = true ∧ c5 = false) ∨ (i = 8 ∧ l7 = true ∧ c5 = true ∧ c8 = false) ∨ (i = 9 ∧ l1 = true ∧ l4 = true ∧ l7 = true ∧ c2 = true ∧ d9 = false) := by
  unfold rdyC at h
  cases l1 <;> cases l4 <;> cases l7 <;> cases c2 <;> cases c5 <;> cases c8 <;> cases d9 <;> simp at h ⊢ <;> omega
theorem ok1 : ∀ l4 l7 c2 c5 c8 d9 : Bool, okC false l4 l7 c2 c5 c8 d9 = true → okC true l4 l7 c2 c5 c8 d9 = true := by decide
theorem ok4 : ∀ l1 l7 c2 c5 c8 d9 : Bool, okC l1 false l7 c2 c5 c8 d9 = true → okC l1 true l7 c2 c5 c8 d9 = true := by decide
theorem ok7 : ∀ l1 l4 c2 c5 c8 d9 : Bool, okC l1 l4 false c2 c5 c8 d9 = true → okC l1 l4 true c2 c5 c8 d9 = true := by decide
theorem ok2 : ∀ l4 l7 c5 c8 d9 : Bool, okC true l4 l7 false c5 c8 d9 = true → okC true l4 l7 true c5 c8 d9 = true := by decide
theorem ok5 : ∀ l1 l7 c8 d9 : Bool, okC l1 true l7 true false c8 d9 = true → okC l1 true l7 true true c8 d9 = true := by decide
theorem ok8 : ∀ l1 l4 c2 d9 : Bool, okC l1 l4 true c2 true false d9 = true → okC l1 l4 true c2 true true d9 = true := by decide
theorem ok9 : ∀ c5 c8 : Bool, okC true true true true c5 c8 false = true → okC true true true true c5 c8 true = true := by decide
def lftC (l1 l4 l7 c2 c5 c8 d9 : Bool) : Nat := (!l1).toNat + (!l4).toNat + (!l7).toNat + (!c2).toNat + (!c5).toNat + (!c8).toNat + (!d9).toNat
def ptr (d : Bool) (b i : Nat) : Value := if d then .pointer (some ⟨b, i, none⟩) else undef
def u64 (d : Bool) (n : Nat) : Value := if d then .int .u64 (n : Int) else undef

theorem u64_true (n : Nat) : u64 true n = .int .u64 (n : Int) := rfl

set_option maxRecDepth 100000 in
set_option maxHeartbeats 2000000 in
theorem clean_made {x : It} {b : Nat} {w : World} (hx : ItOk x) {p1 p2 p4 p5 p7 p8 p9 : String} {f1 f2 f4 f5 f7 f8 f9 : Array Edge}
    (h1 : ops.toList[1]? = some { dst := some 8, op := .load 23 (.tmp 7), type := 23, pos := p1, after := f1, guard := none })
    (h4 : ops.toList[4]? = some { dst := some 11, op := .load 23 (.tmp 10), type := 23, pos := p4, after := f4, guard := none })
    (h7 : ops.toList[7]? = some { dst := some 14, op := .load 23 (.tmp 13), type := 23, pos := p7, after := f7, guard := none })
    (h2 : ops.toList[2]? = some { dst := some 9, op := .call { callee := .value (.func 33), args := #[.tmp 8], argTypes := #[23] }, type := 23, pos := p2, after := f2, guard := none })
    (h5 : ops.toList[5]? = some { dst := some 12, op := .call { callee := .value (.func 33), args := #[.tmp 11], argTypes := #[23] }, type := 23, pos := p5, after := f5, guard := none })
    (h8 : ops.toList[8]? = some { dst := some 15, op := .call { callee := .value (.func 33), args := #[.tmp 14], argTypes := #[23] }, type := 23, pos := p8, after := f8, guard := none })
    (h9 : ops.toList[9]? = some { dst := some 16, op := .fieldAddr 32 (.tmp 1) 3, type := 0, pos := p9, after := f9, guard := none })
    (hr : ∀ l1 l4 l7 c2 c5 c8 d9 : Bool, okC l1 l4 l7 c2 c5 c8 d9 = true → (c8 && d9) = false → Region.ready .any ops (lstC l1 l4 l7 c2 c5 c8 d9) = rdyC l1 l4 l7 c2 c5 c8 d9)
    (hS : S w) (D : DocB w b x)
    (hfin : wpAnyH Try.prog .any ops Q S 5 (lstC true true true true true true true) (actC x b (.int .u64 (x.f : Int)) (.int .u64 ((cb x.f : Nat) : Int)) (.int .u64 (x.r : Int)) (.int .u64 ((cb x.r : Nat) : Int)) (.int .u64 (x.i : Int)) (.int .u64 ((cb x.i : Nat) : Int)) (.pointer (some ⟨b, 3, none⟩))) w) :
    ∀ (m : Nat) (l1 l4 l7 c2 c5 c8 d9 : Bool), okC l1 l4 l7 c2 c5 c8 d9 = true → lftC l1 l4 l7 c2 c5 c8 d9 = m →
      wpAnyH Try.prog .any ops Q S (m + 5) (lstC l1 l4 l7 c2 c5 c8 d9) (actC x b (u64 l1 x.f) (u64 c2 (cb x.f)) (u64 l4 x.r) (u64 c5 (cb x.r)) (u64 l7 x.i) (u64 c8 (cb x.i)) (ptr d9 b 3)) w := by
  obtain ⟨d0, d1, d2, d3, d4, d5, d6⟩ := D.cells
  have kf := fun w => rcleanBits_any x.f w hx.f
  have kr := fun w => rcleanBits_any x.r w hx.r
  have ki := fun w => rcleanBits_any x.i w hx.i
  intro m
  induction m with
  | zero =>
    intro l1 l4 l7 c2 c5 c8 d9 _ hl
    unfold lftC at hl
    cases l1 <;> cases l4 <;> cases l7 <;> cases c2 <;> cases c5 <;> cases c8 <;> cases d9 <;> first | (exact hfin) | (simp at hl)
  | succ n ih =>
    intro l1 l4 l7 c2 c5 c8 d9 hok hl
    have hc8 : (c8 && d9) = false := by
      unfold lftC at hl
      unfold okC at hok
      revert hok hl
      cases l1 <;> cases l4 <;> cases l7 <;> cases c2 <;> cases c5 <;> cases c8 <;> cases d9 <;> simp
    rw [show n + 1 + 5 = (n + 5) + 1 by omega]
    refine ready_each (hr _ _ _ _ _ _ _ hok hc8) (rdyC_ne _ _ _ _ _ _ _ hok hc8) ?_
    clear hc8
    intro i hi
    rcases rdyC_mem hi with ⟨rfl, rfl⟩ | ⟨rfl, rfl⟩ | ⟨rfl, rfl⟩ | ⟨rfl, rfl, rfl⟩ | ⟨rfl, rfl, rfl, rfl⟩ | ⟨rfl, rfl, rfl, rfl⟩ | ⟨rfl, rfl, rfl, rfl, rfl, rfl⟩
    · refine ⟨_, h1, fun K hK => ?_⟩
      rw [if_pos (by rfl)]
      unfold actC
      go_simp
      refine hK.out _ _ hS (fun _ => ?_)
      exact ih true l4 l7 c2 c5 c8 d9 (ok1 _ _ _ _ _ _ hok) (by revert hl; unfold lftC; simp <;> omega)
    · refine ⟨_, h4, fun K hK => ?_⟩
      rw [if_pos (by rfl)]
      unfold actC
      go_simp
      refine hK.out _ _ hS (fun _ => ?_)
      exact ih l1 true l7 c2 c5 c8 d9 (ok4 _ _ _ _ _ _ hok) (by revert hl; unfold lftC; simp <;> omega)
    · refine ⟨_, h7, fun K hK => ?_⟩
      rw [if_pos (by rfl)]
      unfold actC
      go_simp
      refine hK.out _ _ hS (fun _ => ?_)
      exact ih l1 l4 true c2 c5 c8 d9 (ok7 _ _ _ _ _ _ hok) (by revert hl; unfold lftC; simp <;> omega)
    · refine ⟨_, h2, fun K hK => ?_⟩
      rw [if_pos (by rfl)]
      unfold actC
      simp only [u64_true]
      go_simp
      refine (kf _).mono ?_
      rintro e w' ⟨rfl, hq⟩
      have hq2 := hq.symm
      subst hq2
      clear hq
      go_wp2_with fail
      refine hK.out _ _ hS (fun _ => ?_)
      exact ih true l4 l7 true c5 c8 d9 (ok2 _ _ _ _ _ hok) (by revert hl; unfold lftC; simp <;> omega)
    · refine ⟨_, h5, fun K hK => ?_⟩
      rw [if_pos (by rfl)]
      unfold actC
      simp only [u64_true]
      go_simp
      refine (kr _).mono ?_
      rintro e w' ⟨rfl, hq⟩
      have hq2 := hq.symm
      subst hq2
      clear hq
      go_wp2_with fail
      refine hK.out _ _ hS (fun _ => ?_)
      exact ih l1 true l7 true true c8 d9 (ok5 _ _ _ _ hok) (by revert hl; unfold lftC; simp <;> omega)
    · refine ⟨_, h8, fun K hK => ?_⟩
      rw [if_pos (by rfl)]
      unfold actC
      simp only [u64_true]
      go_simp
      refine (ki _).mono ?_
      rintro e w' ⟨rfl, hq⟩
      have hq2 := hq.symm
      subst hq2
      clear hq
      go_wp2_with fail
      refine hK.out _ _ hS (fun _ => ?_)
      exact ih l1 l4 true c2 true true d9 (ok8 _ _ _ _ hok) (by revert hl; unfold lftC; simp <;> omega)
    · refine ⟨_, h9, fun K hK => ?_⟩
      rw [if_pos (by rfl)]
      unfold actC
      go_simp
      refine hK.out _ _ hS (fun _ => ?_)
      exact ih true true true true c5 c8 true (ok9 _ _ hok) (by revert hl; unfold lftC; simp <;> omega)
end

theorem DocB.drew {w : World} {g : Nat} {x : It} (h : DocB w g x) : DocB w.drew g x := h
def prD (w : World) (x : It) : World := (w.alloc (.cells #[.int .i64 x.k, .bool x.b, .int .i64 x.n, .int .u64 (x.f : Int), .int .u64 (x.r : Int), .int .u64 (x.i : Int), .string x.t] 32)).alloc (.cells #[.int .i64 0, .bool false, .int .i64 0, .int .u64 0, .int .u64 0, .int .u64 0, .string ByteArray.empty] 32)
theorem fstD' (w : World) (x : It) : DocB (prD w x) w.heap.size x ∧ DocB (prD w x) (w.heap.size + 1) (it0 0) := ⟨fstD w x _, heap_alloc2_new w _ _⟩
theorem pair' (w : World) (x : It) : Below w.heap.size w (prD w x) := pair_below w _ _

set_option maxRecDepth 100000 in
set_option maxHeartbeats 2000000 in
theorem rclean_any (x : It) (w : World) (hx : ItOk x) :
    Calls Try.prog 12 #[valR x] w fun e w' => e = .returned (valR (cln x)) ∧ Below w.heap.size w w' := by
  have hm := fun w => rcheck_any x w hx
  have D0 := fstD' w x
  have hb0 := pair' w x
  have hs0 : (prD w x).heap.size = w.heap.size + 1 + 1 := by unfold prD; simp
  have HX := hide_it hx
  clear hx
  obtain ⟨cx, hcl⟩ : ∃ cx, cx = if may x then clean x else x := ⟨_, rfl⟩
  rw [show cln x = cx from hcl.symm]
  have HC := hide_it hcl
  clear hcl
  go_enter Try.func12, Try.ntmps12
  go_wp2_with fail
  refine (show Calls _ _ _ (prD w x) _ from hm (prD w x)).mono ?_
  rintro e w1 ⟨rfl, hb1⟩
  have D1 := D0.1.below hb1 (by omega)
  have E1 := D0.2.below hb1 (by omega)
  have hbw := hb0.trans (hb1.mono (by omega))
  clear D0 hb0 hb1 hs0 hm
  obtain ⟨c0, c1, c2, c3, c4, c5, c6⟩ := D1.cells
  obtain ⟨d0, d1, d2, d3, d4, d5, d6⟩ := E1.cells
  have df := fun j => frozen_of_row w1 (w.heap.size + 1) j _ _ E1
  have df0 := df 0
  have df1 := df 1
  have df2 := df 2
  have df3 := df 3
  have df4 := df 4
  have df5 := df 5
  have df6 := df 6
  clear df
  cases hmx : may x with
  | false =>
    simp only [Bool.false_eq_true, if_false]
    have HD := hide_it E1
    have HE : Hid (cx = x) := by unfold Hid; rw [HC.out, hmx]; rfl
    clear D1 E1 hmx
    go_wp2_with fail
    refine bodyPost_ret (ret_doc rfl _ _ (w.heap.size + 1) x rfl (HD.out.all x)) rfl ?_
    exact ⟨by rw [HE.out], below_docs hbw (by omega) _ _ _ _ _ _ _⟩
  | true =>
    simp only [if_true]
    have HE : Hid (cx = clean x) := by unfold Hid; rw [HC.out, hmx]; rfl
    clear hmx HC
    go_wp2_with fail
    have cf := fun j => frozen_of_row w1 w.heap.size j _ _ D1
    have cf3 := cf 3
    have cf4 := cf 4
    have cf5 := cf 5
    clear cf
    refine wp_region_held_drew (S := fun _ => True) (by kernel_rfl) (by trivial) (fun hHeld => ?_)
    refine take_on (i := 0) (v := ?_) rfl rfl (by kernel_rfl) (by kernel_rfl) (by kernel_rfl) (fun _ _ _ h => h) rfl ?_ hHeld ?_
    rotate_left
    · (intro wq hSq; go_simp <;> first | with_reducible rfl | rfl)
    simp only [Act.put, List.setIfInBounds_toArray, List.set_cons_zero, List.set_cons_succ]
    refine take_on (i := 3) (v := ?_) rfl rfl (by kernel_rfl) (by kernel_rfl) (by kernel_rfl) (fun _ _ _ h => h) rfl ?_ hHeld ?_
    rotate_left
    · (intro wq hSq; go_simp <;> first | with_reducible rfl | rfl)
    simp only [Act.put, List.setIfInBounds_toArray, List.set_cons_zero, List.set_cons_succ]
    refine take_on (i := 6) (v := ?_) rfl rfl (by kernel_rfl) (by kernel_rfl) (by kernel_rfl) (fun _ _ _ h => h) rfl ?_ hHeld ?_
    rotate_left
    · (intro wq hSq; go_simp <;> first | with_reducible rfl | rfl)
    simp only [Act.put, List.setIfInBounds_toArray, List.set_cons_zero, List.set_cons_succ]
    refine clean_made (S := fun _ => True) (x := x) (b := w.heap.size) HX.out (by rfl) (by rfl) (by rfl) (by rfl) (by rfl) (by rfl) (by rfl) ?_ (by trivial) (by exact D1) ?_ 7 false false false false false false false rfl rfl
    · intro l1 l4 l7 c2 c5 c8 d9 g1 g2
      cases l1 <;> cases l4 <;> cases l7 <;> cases c2 <;> cases c5 <;> cases c8 <;> cases d9 <;> first | (exact absurd g1 (by decide)) | (exact absurd g2 (by decide)) | kernel_rfl
    unfold actC lstC
    refine take_one (i := 10) rfl (by kernel_rfl) (fun K hK => ?_)
    go_simp
    refine hK.out _ _ ?_ (fun hHeld => ?_)
    · exact trivial
    clear hK K
    try simp only [List.setIfInBounds_toArray, List.set_cons_zero, List.set_cons_succ]
    refine take_on (i := 11) (v := ?_) rfl rfl (by kernel_rfl) (by kernel_rfl) (by kernel_rfl) (fun _ _ _ h => h) rfl ?_ hHeld ?_
    rotate_left
    · (intro wq hSq; go_simp <;> first | with_reducible rfl | rfl)
    simp only [Act.put, List.setIfInBounds_toArray, List.set_cons_zero, List.set_cons_succ]
    refine take_one (i := 12) rfl (by kernel_rfl) (fun K hK => ?_)
    go_simp
    refine hK.out _ _ ?_ (fun hHeld => ?_)
    · exact trivial
    clear hK K
    try simp only [List.setIfInBounds_toArray, List.set_cons_zero, List.set_cons_succ]
    refine take_on (i := 13) (v := ?_) rfl rfl (by kernel_rfl) (by kernel_rfl) (by kernel_rfl) (fun _ _ _ h => h) rfl ?_ hHeld ?_
    rotate_left
    · (intro wq hSq; go_simp <;> first | with_reducible rfl | rfl)
    simp only [Act.put, List.setIfInBounds_toArray, List.set_cons_zero, List.set_cons_succ]
    refine take_one (i := 14) rfl (by kernel_rfl) (fun K hK => ?_)
    go_simp
    refine hK.out _ _ ?_ (fun hHeld => ?_)
    · exact trivial
    clear hK K
    try simp only [List.setIfInBounds_toArray, List.set_cons_zero, List.set_cons_succ]
    refine wpAnyH_done (by kernel_rfl) ?_ _
    have HD := hide_it E1
    clear D1 E1
    go_wp2_with fail
    refine bodyPost_ret (ret_doc rfl _ _ (w.heap.size + 1) (clean x) rfl (DocB.drew (DocB.all (((HD.out.far (by omega) _ _).far (by omega) _ _).far (by omega) _ _) (clean x)))) rfl ?_
    exact ⟨by rw [HE.out], (below_docs (((hbw.setCell (Nat.le_refl _) _).setCell (Nat.le_refl _) _).setCell (Nat.le_refl _) _) (by omega) _ _ _ _ _ _ _).drew⟩

end Go.Proofs.Ytahnpbgbekbfhaa
