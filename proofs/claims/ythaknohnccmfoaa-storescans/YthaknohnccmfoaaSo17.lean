/- What a call answers; two answers that are the same. -/
import Derived.Test.YthaknohnccmfoaaSo16
namespace Go.Proofs.Ythaknohnccmfoaa
open Go.RowKit Go.Maps

set_option maxRecDepth 100000 in
set_option maxHeartbeats 400000 in
theorem beq_same (a b : Option Addr) (n ca cb : Nat) (xs : List Nat) (w : World) (hx : RowB w a xs) (hy : RowB w b xs) (hn : n = xs.length) (hl : (n : Int) ≤ 140737488355328) :
    Calls Try.prog 26 #[.slice a n ca, .slice b n cb] w fun e w' => e = .returned (.bool true) ∧ ∃ q, w' = w.drewN q := by
  have HN := hide_it hn
  clear hn
  go_enter Try.func26, Try.ntmps26
  go_wp2
  go_loopw [13] (fun i wr => ∃ k m : Nat, k ≤ n ∧ i = .int .i64 k ∧ wr = w.drewN m) (fun i _ => n - (intOf i).toNat)
  case atStart => exact ⟨0, 0, by omega, rfl, rfl⟩
  case round =>
    obtain ⟨k, m, hk, rfl, hwr⟩ := hrel
    by_cases hlt : k < n
    · have hbl : Below w.heap.size w wr := by rw [hwr]; exact below_drewN (Below.refl _ _) _
      obtain ⟨ba, oa, rfl, _, hca⟩ := (hx.below hbl).here (i := k) (by rw [← HN.out]; exact hlt)
      obtain ⟨bb, ob, rfl, _, hcb⟩ := (hy.below hbl).here (i := k) (by rw [← HN.out]; exact hlt)
      have h1 := hca k (by rw [← HN.out]; exact hlt)
      have h2 := hcb k (by rw [← HN.out]; exact hlt)
      generalize at0 xs k = u at h1 h2
      have HW := hide_it hwr
      have hi1 : (k : Int) < (n : Int) := by omega
      have hd : ((u : Int) == (u : Int)) = true := by simp
      clear hca hcb hbl hwr
      go_wp2
      go_quiet (fail)
      go_wp2
      go_roundw
      case rel => exact ⟨k + 1, m + nq, by omega, by go_num, by rw [HW.out, World.drewN_drewN]⟩
      case measure => simp [intOf]; omega
    · have hn1 : ¬ (k : Int) < (n : Int) := by omega
      have HW := hide_it hwr
      clear hwr
      go_wp2
      go_ret
      exact ⟨rfl, m, HW.out⟩

/-! ### lists of pairs -/
/-- A pair that is told. -/
structure Pn where
  k : ByteArray
  a : Option Addr
  z : List Nat
  c : Nat
def zeroPn : Pn := ⟨⟨#[]⟩, none, [], 0⟩
def duoP (x : Pn) : List Value := [.string x.k, .slice x.a x.z.length x.c]
def celP (ys : List Pn) : List Value := ys.flatMap duoP
def pn (ys : List Pn) (i : Nat) : Pn := ys.getD i zeroPn
theorem celP_len (xs : List Pn) : (celP xs).length = xs.length * 2 := by
  induction xs with
  | nil => rfl
  | cons x xs ih => show (duoP x ++ celP xs).length = _; rw [List.length_append, ih]; simp [duoP]; omega
theorem celP_append (xs ys : List Pn) : celP (xs ++ ys) = celP xs ++ celP ys := by simp [celP]
theorem celP_one (x : Pn) : celP [x] = duoP x := by simp [celP]
theorem celP_at {xs : List Pn} : ∀ {i : Nat} (_ : i < xs.length) (j : Nat) (_ : j < 2), (celP xs)[i * 2 + j]? = (duoP (pn xs i))[j]? := by
  induction xs with
  | nil => intro i h; simp at h
  | cons x xs ih =>
    intro i h j hj
    show (duoP x ++ celP xs)[i * 2 + j]? = _
    cases i with
    | zero => rw [List.getElem?_append_left (by simp [duoP]; omega)]; simp [pn]
    | succ i =>
      rw [List.getElem?_append_right (by simp [duoP]; omega)]
      have := ih (i := i) (by simpa using h) j hj
      rw [show (i + 1) * 2 + j - (duoP x).length = i * 2 + j by simp [duoP]; omega, this]
      simp [pn]
theorem pn_get {xs : List Pn} {i : Nat} (hi : i < xs.length) : xs[i] = pn xs i := by
  unfold pn; rw [List.getD_eq_getElem?_getD, List.getElem?_eq_getElem hi]; rfl
def OwP (w : World) (B : Nat) (v : Value) (ys : List Pn) : Prop := OwnS w B 60 2 v ys.length (celP ys)
def ValP (w : World) (B : Nat) (ys : List Pn) : Prop := ∀ y ∈ ys, OwnB w B (.slice y.a y.z.length y.c) y.z
/-- What a list of pairs says. -/
def saysP (ys : List Pn) : List (List UInt8 × List Nat) := ys.map fun y => (y.k.data.toList, y.z)

/-! ### reading lists -/
/-- A row of versions, of pairs; each one's bytes can be read. -/
structure RowV (w : World) (v : Value) (ys : List Vn) : Prop where
  own : OwV w 0 v ys
  val : ValV w 0 ys
structure RowP (w : World) (v : Value) (ys : List Pn) : Prop where
  own : OwP w 0 v ys
  val : ValP w 0 ys
theorem RowV.below {w w' : World} {v : Value} {ys : List Vn} (h : RowV w v ys) (hb : Below w.heap.size w w') : RowV w' v ys := ⟨OwnS.below h.own hb, fun y hy => (h.val y hy).below hb⟩
theorem RowP.below {w w' : World} {v : Value} {ys : List Pn} (h : RowP w v ys) (hb : Below w.heap.size w w') : RowP w' v ys := ⟨OwnS.below h.own hb, fun y hy => (h.val y hy).below hb⟩
theorem RowV.here {w : World} {v : Value} {ys : List Vn} (h : RowV w v ys) {i : Nat} (hi : i < ys.length) : ∃ g o cap, v = .slice (some ⟨g, o, none⟩) ys.length cap ∧ g < w.heap.size ∧ ys.length ≤ cap ∧
    w.cell? ⟨g, o + i * 4, none⟩ = some (.string (vn ys i).k) ∧ w.cell? ⟨g, o + i * 4 + 1, none⟩ = some (.int .i64 (vn ys i).n) ∧ w.cell? ⟨g, o + i * 4 + 2, none⟩ = some (.slice (vn ys i).a (vn ys i).z.length (vn ys i).c) ∧ w.cell? ⟨g, o + i * 4 + 3, none⟩ = some (.bool (vn ys i).d) := by
  rcases h.own.2 with ⟨rfl, h0⟩ | ⟨g, o, cap, cur, rfl, _, hh, hn, _⟩
  · omega
  · obtain ⟨a0, a1, a2, a3, hg, _⟩ := OwV.cells h.own hi
    exact ⟨g, o, cap, rfl, hg, hn, a0, a1, a2, a3⟩
theorem RowP.here {w : World} {v : Value} {ys : List Pn} (h : RowP w v ys) {i : Nat} (hi : i < ys.length) : ∃ g o cap, v = .slice (some ⟨g, o, none⟩) ys.length cap ∧ g < w.heap.size ∧ ys.length ≤ cap ∧
    w.cell? ⟨g, o + i * 2, none⟩ = some (.string (pn ys i).k) ∧ w.cell? ⟨g, o + i * 2 + 1, none⟩ = some (.slice (pn ys i).a (pn ys i).z.length (pn ys i).c) := by
  rcases h.own.2 with ⟨rfl, h0⟩ | ⟨g, o, cap, cur, rfl, _, hh, hn, _, hs, ht⟩
  · omega
  · have hl := celP_len ys
    refine ⟨g, o, cap, rfl, (Array.getElem?_eq_some_iff.1 hh).1, hn, ?_, ?_⟩
    · rw [cell_of_row _ _ _ _ _ _ hh, ht (i * 2) (by omega)]; exact celP_at hi 0 (by omega)
    · rw [cell_of_row _ _ _ _ _ _ hh, Nat.add_assoc, ht (i * 2 + 1) (by omega)]; exact celP_at hi 1 (by omega)
theorem same_ba {x y : ByteArray} (h : x.data.toList = y.data.toList) : x = y := by
  apply ByteArray.ext
  exact Array.toList_inj.1 h
theorem saysV_at {xs ys : List Vn} (h : saysV xs = saysV ys) : xs.length = ys.length ∧ ∀ i, i < xs.length → (vn xs i).k = (vn ys i).k ∧ verOf (vn xs i) = verOf (vn ys i) := by
  have hl : xs.length = ys.length := by have := congrArg List.length h; unfold saysV at this; simpa using this
  refine ⟨hl, fun i hi => ?_⟩
  have h1 : (saysV xs)[i]? = (saysV ys)[i]? := by rw [h]
  unfold saysV at h1
  rw [List.getElem?_map, List.getElem?_map, List.getElem?_eq_getElem hi, List.getElem?_eq_getElem (by omega), vn_get hi, vn_get (by omega)] at h1
  simp only [Option.map_some, Option.some.injEq, Prod.mk.injEq] at h1
  exact ⟨same_ba h1.1, h1.2⟩
theorem saysP_at {xs ys : List Pn} (h : saysP xs = saysP ys) : xs.length = ys.length ∧ ∀ i, i < xs.length → (pn xs i).k = (pn ys i).k ∧ (pn xs i).z = (pn ys i).z := by
  have hl : xs.length = ys.length := by have := congrArg List.length h; unfold saysP at this; simpa using this
  refine ⟨hl, fun i hi => ?_⟩
  have h1 : (saysP xs)[i]? = (saysP ys)[i]? := by rw [h]
  unfold saysP at h1
  rw [List.getElem?_map, List.getElem?_map, List.getElem?_eq_getElem hi, List.getElem?_eq_getElem (by omega), pn_get hi, pn_get (by omega)] at h1
  simp only [Option.map_some, Option.some.injEq, Prod.mk.injEq] at h1
  exact ⟨same_ba h1.1, h1.2⟩
theorem vn_mem {xs : List Vn} {i : Nat} (h : i < xs.length) : vn xs i ∈ xs := by rw [← vn_get h]; exact List.getElem_mem h
theorem pn_mem {xs : List Pn} {i : Nat} (h : i < xs.length) : pn xs i ∈ xs := by rw [← pn_get h]; exact List.getElem_mem h

set_option maxRecDepth 100000 in
set_option maxHeartbeats 4000000 in
theorem pairsAlike_same {w : World} {v1 v2 : Value} {xs ys : List Pn} (h1 : RowP w v1 xs) (h2 : RowP w v2 ys) (hs : saysP xs = saysP ys) (hl : xs.length ≤ 4000000000000) (hz : ∀ x ∈ xs, x.z.length ≤ 4096) :
    Calls Try.prog 29 #[v1, v2] w fun e w' => e = .returned (.bool true) ∧ Below w.heap.size w w' := by
  obtain ⟨hle, hat⟩ := saysP_at hs
  obtain ⟨a1, c1, rfl, _⟩ := OwnS.open h1.own
  obtain ⟨a2, c2, rfl, _⟩ := OwnS.open h2.own
  rw [← hle] at h2 ⊢
  obtain ⟨N, hN⟩ : ∃ N, N = xs.length := ⟨_, rfl⟩
  rw [← hN] at hl
  have HN := hide_it hN
  have H1 : Hid (∀ z, Below w.heap.size w z → RowP z (.slice a1 N c1) xs) := by rw [hN]; exact hide_it fun z hz => h1.below hz
  have H2 : Hid (∀ z, Below w.heap.size w z → RowP z (.slice a2 N c2) ys) := by rw [hN]; exact hide_it fun z hz => h2.below hz
  have HLE := hide_it hle
  have HAT := hide_it hat
  have HZ := hide_it hz
  rw [← hN]
  clear h1 h2 hs hle hat hN hz
  go_enter Try.func29, Try.ntmps29
  go_wp2_with fail
  go_loopw [13, 5] (fun i _ wr => ∃ k : Nat, k ≤ N ∧ i = .int .i64 k ∧ Hid (Below w.heap.size w wr)) (fun i _ _ => N - (intOf i).toNat)
  case atStart => exact ⟨0, by omega, rfl, hide_it (Below.refl _ _)⟩
  case round =>
    obtain ⟨k, hk, rfl, HW⟩ := hrel
    by_cases hlt : k < N
    · have hi1 : (k : Int) < (N : Int) := by omega
      obtain ⟨g1, o1, k1, e1, hg1, hc1, p0, p1⟩ := (H1.out wr HW.out).here (i := k) (by rw [← HN.out]; exact hlt)
      obtain ⟨g2, o2, k2, e2, hg2, hc2, q0, q1⟩ := (H2.out wr HW.out).here (i := k) (by rw [← HLE.out, ← HN.out]; exact hlt)
      have hb1 := (H1.out wr HW.out).val _ (pn_mem (i := k) (by rw [← HN.out]; exact hlt))
      have hb2 := (H2.out wr HW.out).val _ (pn_mem (i := k) (by rw [← HLE.out, ← HN.out]; exact hlt))
      obtain ⟨ek, ez⟩ := HAT.out k (by rw [← HN.out]; exact hlt)
      have hzl := HZ.out _ (pn_mem (xs := xs) (i := k) (by rw [← HN.out]; exact hlt))
      rw [← ek] at q0
      rw [← ez] at q1 hb2
      rw [← HN.out] at e1
      rw [← HLE.out, ← HN.out] at e2
      cases e1
      cases e2
      generalize (pn xs k).k = K at *
      generalize (pn xs k).z = Z at *
      generalize (pn xs k).a = A1 at *
      generalize (pn ys k).a = A2 at *
      generalize (pn xs k).c = C1 at *
      generalize (pn ys k).c = C2 at *
      obtain ⟨_, _, e3, r1, _⟩ := hb1.row
      cases e3
      obtain ⟨_, _, e4, r2, _⟩ := hb2.row
      cases e4
      have hcl := fun z (hz : Below wr.heap.size wr z) => beq_same A1 A2 Z.length C1 C2 Z z (r1.below hz) (r2.below hz) rfl (by omega)
      have hwz := HW.out.size
      clear hb1 hb2 r1 r2 ek ez hzl hc1 hc2 H1 H2 HAT HZ
      generalize Z.length = ZL at *
      go_wp2_with fail
      refine wp_region_held_drew (S := (fun w' => Below wr.heap.size wr w')) (by kernel_rfl) ?_ (fun hHeld => ?_)
      · exact (Below.refl _ _).drew
      refine take_on (i := 0) (v := ?_) rfl rfl (by kernel_rfl) (by kernel_rfl) (by kernel_rfl) (fun _ _ _ h => h) rfl ?_ hHeld ?_
      rotate_left
      · (intro wq hSq; have s0 := (hSq.cell (p := ⟨g1, o1 + k * 2, none⟩) hg1).trans p0; have s1 := (hSq.cell (p := ⟨g1, o1 + k * 2 + 1, none⟩) hg1).trans p1; have s2 := (hSq.cell (p := ⟨g2, o2 + k * 2, none⟩) hg2).trans q0; have s3 := (hSq.cell (p := ⟨g2, o2 + k * 2 + 1, none⟩) hg2).trans q1; go_simp <;> first | with_reducible rfl | rfl)
      simp only [Act.put, List.setIfInBounds_toArray, List.set_cons_zero, List.set_cons_succ]
      refine take_on (i := 1) (v := ?_) rfl rfl (by kernel_rfl) (by kernel_rfl) (by kernel_rfl) (fun _ _ _ h => h) rfl ?_ hHeld ?_
      rotate_left
      · (intro wq hSq; have s0 := (hSq.cell (p := ⟨g1, o1 + k * 2, none⟩) hg1).trans p0; have s1 := (hSq.cell (p := ⟨g1, o1 + k * 2 + 1, none⟩) hg1).trans p1; have s2 := (hSq.cell (p := ⟨g2, o2 + k * 2, none⟩) hg2).trans q0; have s3 := (hSq.cell (p := ⟨g2, o2 + k * 2 + 1, none⟩) hg2).trans q1; go_simp <;> first | with_reducible rfl | rfl)
      simp only [Act.put, List.setIfInBounds_toArray, List.set_cons_zero, List.set_cons_succ]
      refine take_on (i := 2) (v := ?_) rfl rfl (by kernel_rfl) (by kernel_rfl) (by kernel_rfl) (fun _ _ _ h => h) rfl ?_ hHeld ?_
      rotate_left
      · (intro wq hSq; have s0 := (hSq.cell (p := ⟨g1, o1 + k * 2, none⟩) hg1).trans p0; have s1 := (hSq.cell (p := ⟨g1, o1 + k * 2 + 1, none⟩) hg1).trans p1; have s2 := (hSq.cell (p := ⟨g2, o2 + k * 2, none⟩) hg2).trans q0; have s3 := (hSq.cell (p := ⟨g2, o2 + k * 2 + 1, none⟩) hg2).trans q1; go_simp <;> first | with_reducible rfl | rfl)
      simp only [Act.put, List.setIfInBounds_toArray, List.set_cons_zero, List.set_cons_succ]
      refine take_on (i := 3) (v := ?_) rfl rfl (by kernel_rfl) (by kernel_rfl) (by kernel_rfl) (fun _ _ _ h => h) rfl ?_ hHeld ?_
      rotate_left
      · (intro wq hSq; have s0 := (hSq.cell (p := ⟨g1, o1 + k * 2, none⟩) hg1).trans p0; have s1 := (hSq.cell (p := ⟨g1, o1 + k * 2 + 1, none⟩) hg1).trans p1; have s2 := (hSq.cell (p := ⟨g2, o2 + k * 2, none⟩) hg2).trans q0; have s3 := (hSq.cell (p := ⟨g2, o2 + k * 2 + 1, none⟩) hg2).trans q1; go_simp <;> first | with_reducible rfl | rfl)
      simp only [Act.put, List.setIfInBounds_toArray, List.set_cons_zero, List.set_cons_succ]
      refine take_on (i := 4) (v := ?_) rfl rfl (by kernel_rfl) (by kernel_rfl) (by kernel_rfl) (fun _ _ _ h => h) rfl ?_ hHeld ?_
      rotate_left
      · (intro wq hSq; have s0 := (hSq.cell (p := ⟨g1, o1 + k * 2, none⟩) hg1).trans p0; have s1 := (hSq.cell (p := ⟨g1, o1 + k * 2 + 1, none⟩) hg1).trans p1; have s2 := (hSq.cell (p := ⟨g2, o2 + k * 2, none⟩) hg2).trans q0; have s3 := (hSq.cell (p := ⟨g2, o2 + k * 2 + 1, none⟩) hg2).trans q1; go_simp <;> first | with_reducible rfl | rfl)
      simp only [Act.put, List.setIfInBounds_toArray, List.set_cons_zero, List.set_cons_succ]
      refine take_on (i := 5) (v := ?_) rfl rfl (by kernel_rfl) (by kernel_rfl) (by kernel_rfl) (fun _ _ _ h => h) rfl ?_ hHeld ?_
      rotate_left
      · (intro wq hSq; have s0 := (hSq.cell (p := ⟨g1, o1 + k * 2, none⟩) hg1).trans p0; have s1 := (hSq.cell (p := ⟨g1, o1 + k * 2 + 1, none⟩) hg1).trans p1; have s2 := (hSq.cell (p := ⟨g2, o2 + k * 2, none⟩) hg2).trans q0; have s3 := (hSq.cell (p := ⟨g2, o2 + k * 2 + 1, none⟩) hg2).trans q1; go_simp <;> first | with_reducible rfl | rfl)
      simp only [Act.put, List.setIfInBounds_toArray, List.set_cons_zero, List.set_cons_succ]
      refine take_on (i := 6) (v := ?_) rfl rfl (by kernel_rfl) (by kernel_rfl) (by kernel_rfl) (fun _ _ _ h => h) rfl ?_ hHeld ?_
      rotate_left
      · (intro wq hSq; have s0 := (hSq.cell (p := ⟨g1, o1 + k * 2, none⟩) hg1).trans p0; have s1 := (hSq.cell (p := ⟨g1, o1 + k * 2 + 1, none⟩) hg1).trans p1; have s2 := (hSq.cell (p := ⟨g2, o2 + k * 2, none⟩) hg2).trans q0; have s3 := (hSq.cell (p := ⟨g2, o2 + k * 2 + 1, none⟩) hg2).trans q1; go_simp <;> first | with_reducible rfl | rfl)
      simp only [Act.put, List.setIfInBounds_toArray, List.set_cons_zero, List.set_cons_succ]
      refine take_on (i := 7) (v := ?_) rfl rfl (by kernel_rfl) (by kernel_rfl) (by kernel_rfl) (fun _ _ _ h => h) rfl ?_ hHeld ?_
      rotate_left
      · (intro wq hSq; have s0 := (hSq.cell (p := ⟨g1, o1 + k * 2, none⟩) hg1).trans p0; have s1 := (hSq.cell (p := ⟨g1, o1 + k * 2 + 1, none⟩) hg1).trans p1; have s2 := (hSq.cell (p := ⟨g2, o2 + k * 2, none⟩) hg2).trans q0; have s3 := (hSq.cell (p := ⟨g2, o2 + k * 2 + 1, none⟩) hg2).trans q1; go_simp <;> first | with_reducible rfl | rfl)
      simp only [Act.put, List.setIfInBounds_toArray, List.set_cons_zero, List.set_cons_succ]
      refine take_on (i := 8) (v := ?_) rfl rfl (by kernel_rfl) (by kernel_rfl) (by kernel_rfl) (fun _ _ _ h => h) rfl ?_ hHeld ?_
      rotate_left
      · (intro wq hSq; have s0 := (hSq.cell (p := ⟨g1, o1 + k * 2, none⟩) hg1).trans p0; have s1 := (hSq.cell (p := ⟨g1, o1 + k * 2 + 1, none⟩) hg1).trans p1; have s2 := (hSq.cell (p := ⟨g2, o2 + k * 2, none⟩) hg2).trans q0; have s3 := (hSq.cell (p := ⟨g2, o2 + k * 2 + 1, none⟩) hg2).trans q1; go_simp <;> first | with_reducible rfl | rfl)
      simp only [Act.put, List.setIfInBounds_toArray, List.set_cons_zero, List.set_cons_succ]
      refine take_on (i := 9) (v := ?_) rfl rfl (by kernel_rfl) (by kernel_rfl) (by kernel_rfl) (fun _ _ _ h => h) rfl ?_ hHeld ?_
      rotate_left
      · (intro wq hSq; have s0 := (hSq.cell (p := ⟨g1, o1 + k * 2, none⟩) hg1).trans p0; have s1 := (hSq.cell (p := ⟨g1, o1 + k * 2 + 1, none⟩) hg1).trans p1; have s2 := (hSq.cell (p := ⟨g2, o2 + k * 2, none⟩) hg2).trans q0; have s3 := (hSq.cell (p := ⟨g2, o2 + k * 2 + 1, none⟩) hg2).trans q1; go_simp <;> first | with_reducible rfl | rfl)
      simp only [Act.put, List.setIfInBounds_toArray, List.set_cons_zero, List.set_cons_succ]
      refine take_on (i := 10) (v := ?_) rfl rfl (by kernel_rfl) (by kernel_rfl) (by kernel_rfl) (fun _ _ _ h => h) rfl ?_ hHeld ?_
      rotate_left
      · (intro wq hSq; have s0 := (hSq.cell (p := ⟨g1, o1 + k * 2, none⟩) hg1).trans p0; have s1 := (hSq.cell (p := ⟨g1, o1 + k * 2 + 1, none⟩) hg1).trans p1; have s2 := (hSq.cell (p := ⟨g2, o2 + k * 2, none⟩) hg2).trans q0; have s3 := (hSq.cell (p := ⟨g2, o2 + k * 2 + 1, none⟩) hg2).trans q1; go_simp <;> first | with_reducible rfl | rfl)
      simp only [Act.put, List.setIfInBounds_toArray, List.set_cons_zero, List.set_cons_succ]
      refine take_on (i := 11) (v := ?_) rfl rfl (by kernel_rfl) (by kernel_rfl) (by kernel_rfl) (fun _ _ _ h => h) rfl ?_ hHeld ?_
      rotate_left
      · (intro wq hSq; have s0 := (hSq.cell (p := ⟨g1, o1 + k * 2, none⟩) hg1).trans p0; have s1 := (hSq.cell (p := ⟨g1, o1 + k * 2 + 1, none⟩) hg1).trans p1; have s2 := (hSq.cell (p := ⟨g2, o2 + k * 2, none⟩) hg2).trans q0; have s3 := (hSq.cell (p := ⟨g2, o2 + k * 2 + 1, none⟩) hg2).trans q1; go_simp <;> first | with_reducible rfl | rfl)
      simp only [Act.put, List.setIfInBounds_toArray, List.set_cons_zero, List.set_cons_succ]
      refine take_on (i := 12) (v := ?_) rfl rfl (by kernel_rfl) (by kernel_rfl) (by kernel_rfl) (fun _ _ _ h => h) rfl ?_ hHeld ?_
      rotate_left
      · (intro wq hSq; have s0 := (hSq.cell (p := ⟨g1, o1 + k * 2, none⟩) hg1).trans p0; have s1 := (hSq.cell (p := ⟨g1, o1 + k * 2 + 1, none⟩) hg1).trans p1; have s2 := (hSq.cell (p := ⟨g2, o2 + k * 2, none⟩) hg2).trans q0; have s3 := (hSq.cell (p := ⟨g2, o2 + k * 2 + 1, none⟩) hg2).trans q1; go_simp <;> first | with_reducible rfl | rfl)
      simp only [Act.put, List.setIfInBounds_toArray, List.set_cons_zero, List.set_cons_succ]
      refine take_on (i := 13) (v := ?_) rfl rfl (by kernel_rfl) (by kernel_rfl) (by kernel_rfl) (fun _ _ _ h => h) rfl ?_ hHeld ?_
      rotate_left
      · (intro wq hSq; have s0 := (hSq.cell (p := ⟨g1, o1 + k * 2, none⟩) hg1).trans p0; have s1 := (hSq.cell (p := ⟨g1, o1 + k * 2 + 1, none⟩) hg1).trans p1; have s2 := (hSq.cell (p := ⟨g2, o2 + k * 2, none⟩) hg2).trans q0; have s3 := (hSq.cell (p := ⟨g2, o2 + k * 2 + 1, none⟩) hg2).trans q1; go_simp <;> first | with_reducible rfl | rfl)
      simp only [Act.put, List.setIfInBounds_toArray, List.set_cons_zero, List.set_cons_succ]
      refine take_on (i := 14) (v := ?_) rfl rfl (by kernel_rfl) (by kernel_rfl) (by kernel_rfl) (fun _ _ _ h => h) rfl ?_ hHeld ?_
      rotate_left
      · (intro wq hSq; have s0 := (hSq.cell (p := ⟨g1, o1 + k * 2, none⟩) hg1).trans p0; have s1 := (hSq.cell (p := ⟨g1, o1 + k * 2 + 1, none⟩) hg1).trans p1; have s2 := (hSq.cell (p := ⟨g2, o2 + k * 2, none⟩) hg2).trans q0; have s3 := (hSq.cell (p := ⟨g2, o2 + k * 2 + 1, none⟩) hg2).trans q1; go_simp <;> first | with_reducible rfl | rfl)
      simp only [Act.put, List.setIfInBounds_toArray, List.set_cons_zero, List.set_cons_succ]
      refine take_on (i := 15) (v := ?_) rfl rfl (by kernel_rfl) (by kernel_rfl) (by kernel_rfl) (fun _ _ _ h => h) rfl ?_ hHeld ?_
      rotate_left
      · (intro wq hSq; have s0 := (hSq.cell (p := ⟨g1, o1 + k * 2, none⟩) hg1).trans p0; have s1 := (hSq.cell (p := ⟨g1, o1 + k * 2 + 1, none⟩) hg1).trans p1; have s2 := (hSq.cell (p := ⟨g2, o2 + k * 2, none⟩) hg2).trans q0; have s3 := (hSq.cell (p := ⟨g2, o2 + k * 2 + 1, none⟩) hg2).trans q1; go_simp <;> first | with_reducible rfl | rfl)
      simp only [Act.put, List.setIfInBounds_toArray, List.set_cons_zero, List.set_cons_succ]
      refine take_on (i := 16) (v := ?_) rfl rfl (by kernel_rfl) (by kernel_rfl) (by kernel_rfl) (fun _ _ _ h => h) rfl ?_ hHeld ?_
      rotate_left
      · (intro wq hSq; have s0 := (hSq.cell (p := ⟨g1, o1 + k * 2, none⟩) hg1).trans p0; have s1 := (hSq.cell (p := ⟨g1, o1 + k * 2 + 1, none⟩) hg1).trans p1; have s2 := (hSq.cell (p := ⟨g2, o2 + k * 2, none⟩) hg2).trans q0; have s3 := (hSq.cell (p := ⟨g2, o2 + k * 2 + 1, none⟩) hg2).trans q1; go_simp <;> first | with_reducible rfl | rfl)
      simp only [Act.put, List.setIfInBounds_toArray, List.set_cons_zero, List.set_cons_succ]
      refine take_on (i := 17) (v := ?_) rfl rfl (by kernel_rfl) (by kernel_rfl) (by kernel_rfl) (fun _ _ _ h => h) rfl ?_ hHeld ?_
      rotate_left
      · (intro wq hSq; have s0 := (hSq.cell (p := ⟨g1, o1 + k * 2, none⟩) hg1).trans p0; have s1 := (hSq.cell (p := ⟨g1, o1 + k * 2 + 1, none⟩) hg1).trans p1; have s2 := (hSq.cell (p := ⟨g2, o2 + k * 2, none⟩) hg2).trans q0; have s3 := (hSq.cell (p := ⟨g2, o2 + k * 2 + 1, none⟩) hg2).trans q1; go_simp <;> first | with_reducible rfl | rfl)
      simp only [Act.put, List.setIfInBounds_toArray, List.set_cons_zero, List.set_cons_succ]
      refine take_on (i := 18) (v := ?_) rfl rfl (by kernel_rfl) (by kernel_rfl) (by kernel_rfl) (fun _ _ _ h => h) rfl ?_ hHeld ?_
      rotate_left
      · (intro wq hSq; have s0 := (hSq.cell (p := ⟨g1, o1 + k * 2, none⟩) hg1).trans p0; have s1 := (hSq.cell (p := ⟨g1, o1 + k * 2 + 1, none⟩) hg1).trans p1; have s2 := (hSq.cell (p := ⟨g2, o2 + k * 2, none⟩) hg2).trans q0; have s3 := (hSq.cell (p := ⟨g2, o2 + k * 2 + 1, none⟩) hg2).trans q1; go_simp <;> first | with_reducible rfl | rfl)
      simp only [Act.put, List.setIfInBounds_toArray, List.set_cons_zero, List.set_cons_succ]
      refine take_on (i := 19) (v := ?_) rfl rfl (by kernel_rfl) (by kernel_rfl) (by kernel_rfl) (fun _ _ _ h => h) rfl ?_ hHeld ?_
      rotate_left
      · (intro wq hSq; have s0 := (hSq.cell (p := ⟨g1, o1 + k * 2, none⟩) hg1).trans p0; have s1 := (hSq.cell (p := ⟨g1, o1 + k * 2 + 1, none⟩) hg1).trans p1; have s2 := (hSq.cell (p := ⟨g2, o2 + k * 2, none⟩) hg2).trans q0; have s3 := (hSq.cell (p := ⟨g2, o2 + k * 2 + 1, none⟩) hg2).trans q1; go_simp <;> first | with_reducible rfl | rfl)
      simp only [Act.put, List.setIfInBounds_toArray, List.set_cons_zero, List.set_cons_succ]
      refine take_on (i := 20) (v := ?_) rfl rfl (by kernel_rfl) (by kernel_rfl) (by kernel_rfl) (fun _ _ _ h => h) rfl ?_ hHeld ?_
      rotate_left
      · (intro wq hSq; have s0 := (hSq.cell (p := ⟨g1, o1 + k * 2, none⟩) hg1).trans p0; have s1 := (hSq.cell (p := ⟨g1, o1 + k * 2 + 1, none⟩) hg1).trans p1; have s2 := (hSq.cell (p := ⟨g2, o2 + k * 2, none⟩) hg2).trans q0; have s3 := (hSq.cell (p := ⟨g2, o2 + k * 2 + 1, none⟩) hg2).trans q1; go_simp <;> first | with_reducible rfl | rfl)
      simp only [Act.put, List.setIfInBounds_toArray, List.set_cons_zero, List.set_cons_succ]
      refine take_on (i := 21) (v := ?_) rfl rfl (by kernel_rfl) (by kernel_rfl) (by kernel_rfl) (fun _ _ _ h => h) rfl ?_ hHeld ?_
      rotate_left
      · (intro wq hSq; have s0 := (hSq.cell (p := ⟨g1, o1 + k * 2, none⟩) hg1).trans p0; have s1 := (hSq.cell (p := ⟨g1, o1 + k * 2 + 1, none⟩) hg1).trans p1; have s2 := (hSq.cell (p := ⟨g2, o2 + k * 2, none⟩) hg2).trans q0; have s3 := (hSq.cell (p := ⟨g2, o2 + k * 2 + 1, none⟩) hg2).trans q1; go_simp <;> first | with_reducible rfl | rfl)
      simp only [Act.put, List.setIfInBounds_toArray, List.set_cons_zero, List.set_cons_succ]
      refine take_one (i := 22) rfl (by kernel_rfl) (fun K hK => ?_)
      go_simp
      (refine (hcl _ hHeld).mono ?_; rintro e z1 ⟨rfl, q, rfl⟩)
      try go_wp2_with fail
      refine hK.out _ _ ?_ (fun hHeld => ?_)
      · exact below_drewN (Below.refl _ _) _
      clear hK K
      try simp only [Act.put, List.setIfInBounds_toArray, List.set_cons_zero, List.set_cons_succ]
      refine take_on (i := 23) (v := ?_) rfl rfl (by kernel_rfl) (by kernel_rfl) (by kernel_rfl) (fun _ _ _ h => h) rfl ?_ hHeld ?_
      rotate_left
      · (intro wq hSq; have s0 := (hSq.cell (p := ⟨g1, o1 + k * 2, none⟩) hg1).trans p0; have s1 := (hSq.cell (p := ⟨g1, o1 + k * 2 + 1, none⟩) hg1).trans p1; have s2 := (hSq.cell (p := ⟨g2, o2 + k * 2, none⟩) hg2).trans q0; have s3 := (hSq.cell (p := ⟨g2, o2 + k * 2 + 1, none⟩) hg2).trans q1; go_simp <;> first | with_reducible rfl | rfl)
      simp only [Act.put, List.setIfInBounds_toArray, List.set_cons_zero, List.set_cons_succ]
      refine take_on (i := 24) (v := ?_) rfl rfl (by kernel_rfl) (by kernel_rfl) (by kernel_rfl) (fun _ _ _ h => h) rfl ?_ hHeld ?_
      rotate_left
      · (intro wq hSq; have s0 := (hSq.cell (p := ⟨g1, o1 + k * 2, none⟩) hg1).trans p0; have s1 := (hSq.cell (p := ⟨g1, o1 + k * 2 + 1, none⟩) hg1).trans p1; have s2 := (hSq.cell (p := ⟨g2, o2 + k * 2, none⟩) hg2).trans q0; have s3 := (hSq.cell (p := ⟨g2, o2 + k * 2 + 1, none⟩) hg2).trans q1; go_simp <;> first | with_reducible rfl | rfl)
      simp only [Act.put, List.setIfInBounds_toArray, List.set_cons_zero, List.set_cons_succ]
      refine wpAnyH_done (by kernel_rfl) ?_ _
      have HB := hide_it (HW.out.trans (hHeld.mono hwz))
      go_wp2
      go_roundw
      case rel => exact ⟨k + 1, by omega, by go_num, HB⟩
      case measure => simp [intOf]; omega
    · have hn1 : ¬ (k : Int) < (N : Int) := by omega
      go_wp2
      go_ret
      exact ⟨rfl, HW.out⟩

set_option maxRecDepth 100000 in
set_option maxHeartbeats 4000000 in
theorem versionsAlike_same {w : World} {v1 v2 : Value} {xs ys : List Vn} (h1 : RowV w v1 xs) (h2 : RowV w v2 ys) (hs : saysV xs = saysV ys) (hl : xs.length ≤ 4000000000000) (hz : ∀ x ∈ xs, x.z.length ≤ 4096) :
    Calls Try.prog 14 #[v1, v2] w fun e w' => e = .returned (.bool true) ∧ Below w.heap.size w w' := by
  obtain ⟨hle, hat⟩ := saysV_at hs
  obtain ⟨a1, c1, rfl, _⟩ := OwnS.open h1.own
  obtain ⟨a2, c2, rfl, _⟩ := OwnS.open h2.own
  rw [← hle] at h2 ⊢
  obtain ⟨N, hN⟩ : ∃ N, N = xs.length := ⟨_, rfl⟩
  rw [← hN] at hl
  have HN := hide_it hN
  have H1 : Hid (∀ z, Below w.heap.size w z → RowV z (.slice a1 N c1) xs) := by rw [hN]; exact hide_it fun z hz => h1.below hz
  have H2 : Hid (∀ z, Below w.heap.size w z → RowV z (.slice a2 N c2) ys) := by rw [hN]; exact hide_it fun z hz => h2.below hz
  have HLE := hide_it hle
  have HAT := hide_it hat
  have HZ := hide_it hz
  rw [← hN]
  clear h1 h2 hs hle hat hN hz
  go_enter Try.func14, Try.ntmps14
  go_wp2_with fail
  go_loopw [13, 5] (fun i _ wr => ∃ k : Nat, k ≤ N ∧ i = .int .i64 k ∧ Hid (Below w.heap.size w wr)) (fun i _ _ => N - (intOf i).toNat)
  case atStart => exact ⟨0, by omega, rfl, hide_it (Below.refl _ _)⟩
  case round =>
    obtain ⟨k, hk, rfl, HW⟩ := hrel
    by_cases hlt : k < N
    · have hi1 : (k : Int) < (N : Int) := by omega
      obtain ⟨g1, o1, k1, e1, hg1, hc1, p0, p1, p2, p3⟩ := (H1.out wr HW.out).here (i := k) (by rw [← HN.out]; exact hlt)
      obtain ⟨g2, o2, k2, e2, hg2, hc2, q0, q1, q2, q3⟩ := (H2.out wr HW.out).here (i := k) (by rw [← HLE.out, ← HN.out]; exact hlt)
      have hb1 := (H1.out wr HW.out).val _ (vn_mem (i := k) (by rw [← HN.out]; exact hlt))
      have hb2 := (H2.out wr HW.out).val _ (vn_mem (i := k) (by rw [← HLE.out, ← HN.out]; exact hlt))
      obtain ⟨ek, ev⟩ := HAT.out k (by rw [← HN.out]; exact hlt)
      have en : (vn xs k).n = (vn ys k).n := congrArg Ver.n ev
      have ez : (vn xs k).z = (vn ys k).z := congrArg Ver.b ev
      have ed : (vn xs k).d = (vn ys k).d := congrArg Ver.d ev
      have hzl := HZ.out _ (vn_mem (xs := xs) (i := k) (by rw [← HN.out]; exact hlt))
      rw [← ek] at q0
      rw [← en] at q1
      rw [← ez] at q2 hb2
      rw [← ed] at q3
      rw [← HN.out] at e1
      rw [← HLE.out, ← HN.out] at e2
      cases e1
      cases e2
      clear ev ek en ez ed
      generalize (vn xs k).k = K at *
      generalize (vn xs k).n = NN at *
      generalize (vn xs k).d = D at *
      generalize (vn xs k).z = Z at *
      generalize (vn xs k).a = A1 at *
      generalize (vn ys k).a = A2 at *
      generalize (vn xs k).c = C1 at *
      generalize (vn ys k).c = C2 at *
      obtain ⟨_, _, e3, r1, _⟩ := hb1.row
      cases e3
      obtain ⟨_, _, e4, r2, _⟩ := hb2.row
      cases e4
      have hcl := fun z (hz : Below wr.heap.size wr z) => beq_same A1 A2 Z.length C1 C2 Z z (r1.below hz) (r2.below hz) rfl (by omega)
      have hwz := HW.out.size
      clear hb1 hb2 r1 r2 hzl hc1 hc2 H1 H2 HAT HZ
      generalize Z.length = ZL at *
      go_wp2_with fail
      refine wp_region_held_drew (S := (fun w' => Below wr.heap.size wr w')) (by kernel_rfl) ?_ (fun hHeld => ?_)
      · exact (Below.refl _ _).drew
      refine take_on (i := 0) (v := ?_) rfl rfl (by kernel_rfl) (by kernel_rfl) (by kernel_rfl) (fun _ _ _ h => h) rfl ?_ hHeld ?_
      rotate_left
      · (intro wq hSq; have s0 := (hSq.cell (p := ⟨g1, o1 + k * 4, none⟩) hg1).trans p0; have s1 := (hSq.cell (p := ⟨g1, o1 + k * 4 + 1, none⟩) hg1).trans p1; have s2 := (hSq.cell (p := ⟨g1, o1 + k * 4 + 2, none⟩) hg1).trans p2; have s3 := (hSq.cell (p := ⟨g1, o1 + k * 4 + 3, none⟩) hg1).trans p3; have r0 := (hSq.cell (p := ⟨g2, o2 + k * 4, none⟩) hg2).trans q0; have r1 := (hSq.cell (p := ⟨g2, o2 + k * 4 + 1, none⟩) hg2).trans q1; have r2 := (hSq.cell (p := ⟨g2, o2 + k * 4 + 2, none⟩) hg2).trans q2; have r3 := (hSq.cell (p := ⟨g2, o2 + k * 4 + 3, none⟩) hg2).trans q3; go_simp <;> first | with_reducible rfl | rfl)
      simp only [Act.put, List.setIfInBounds_toArray, List.set_cons_zero, List.set_cons_succ]
      refine take_on (i := 1) (v := ?_) rfl rfl (by kernel_rfl) (by kernel_rfl) (by kernel_rfl) (fun _ _ _ h => h) rfl ?_ hHeld ?_
      rotate_left
      · (intro wq hSq; have s0 := (hSq.cell (p := ⟨g1, o1 + k * 4, none⟩) hg1).trans p0; have s1 := (hSq.cell (p := ⟨g1, o1 + k * 4 + 1, none⟩) hg1).trans p1; have s2 := (hSq.cell (p := ⟨g1, o1 + k * 4 + 2, none⟩) hg1).trans p2; have s3 := (hSq.cell (p := ⟨g1, o1 + k * 4 + 3, none⟩) hg1).trans p3; have r0 := (hSq.cell (p := ⟨g2, o2 + k * 4, none⟩) hg2).trans q0; have r1 := (hSq.cell (p := ⟨g2, o2 + k * 4 + 1, none⟩) hg2).trans q1; have r2 := (hSq.cell (p := ⟨g2, o2 + k * 4 + 2, none⟩) hg2).trans q2; have r3 := (hSq.cell (p := ⟨g2, o2 + k * 4 + 3, none⟩) hg2).trans q3; go_simp <;> first | with_reducible rfl | rfl)
      simp only [Act.put, List.setIfInBounds_toArray, List.set_cons_zero, List.set_cons_succ]
      refine take_on (i := 2) (v := ?_) rfl rfl (by kernel_rfl) (by kernel_rfl) (by kernel_rfl) (fun _ _ _ h => h) rfl ?_ hHeld ?_
      rotate_left
      · (intro wq hSq; have s0 := (hSq.cell (p := ⟨g1, o1 + k * 4, none⟩) hg1).trans p0; have s1 := (hSq.cell (p := ⟨g1, o1 + k * 4 + 1, none⟩) hg1).trans p1; have s2 := (hSq.cell (p := ⟨g1, o1 + k * 4 + 2, none⟩) hg1).trans p2; have s3 := (hSq.cell (p := ⟨g1, o1 + k * 4 + 3, none⟩) hg1).trans p3; have r0 := (hSq.cell (p := ⟨g2, o2 + k * 4, none⟩) hg2).trans q0; have r1 := (hSq.cell (p := ⟨g2, o2 + k * 4 + 1, none⟩) hg2).trans q1; have r2 := (hSq.cell (p := ⟨g2, o2 + k * 4 + 2, none⟩) hg2).trans q2; have r3 := (hSq.cell (p := ⟨g2, o2 + k * 4 + 3, none⟩) hg2).trans q3; go_simp <;> first | with_reducible rfl | rfl)
      simp only [Act.put, List.setIfInBounds_toArray, List.set_cons_zero, List.set_cons_succ]
      refine take_on (i := 3) (v := ?_) rfl rfl (by kernel_rfl) (by kernel_rfl) (by kernel_rfl) (fun _ _ _ h => h) rfl ?_ hHeld ?_
      rotate_left
      · (intro wq hSq; have s0 := (hSq.cell (p := ⟨g1, o1 + k * 4, none⟩) hg1).trans p0; have s1 := (hSq.cell (p := ⟨g1, o1 + k * 4 + 1, none⟩) hg1).trans p1; have s2 := (hSq.cell (p := ⟨g1, o1 + k * 4 + 2, none⟩) hg1).trans p2; have s3 := (hSq.cell (p := ⟨g1, o1 + k * 4 + 3, none⟩) hg1).trans p3; have r0 := (hSq.cell (p := ⟨g2, o2 + k * 4, none⟩) hg2).trans q0; have r1 := (hSq.cell (p := ⟨g2, o2 + k * 4 + 1, none⟩) hg2).trans q1; have r2 := (hSq.cell (p := ⟨g2, o2 + k * 4 + 2, none⟩) hg2).trans q2; have r3 := (hSq.cell (p := ⟨g2, o2 + k * 4 + 3, none⟩) hg2).trans q3; go_simp <;> first | with_reducible rfl | rfl)
      simp only [Act.put, List.setIfInBounds_toArray, List.set_cons_zero, List.set_cons_succ]
      refine take_on (i := 4) (v := ?_) rfl rfl (by kernel_rfl) (by kernel_rfl) (by kernel_rfl) (fun _ _ _ h => h) rfl ?_ hHeld ?_
      rotate_left
      · (intro wq hSq; have s0 := (hSq.cell (p := ⟨g1, o1 + k * 4, none⟩) hg1).trans p0; have s1 := (hSq.cell (p := ⟨g1, o1 + k * 4 + 1, none⟩) hg1).trans p1; have s2 := (hSq.cell (p := ⟨g1, o1 + k * 4 + 2, none⟩) hg1).trans p2; have s3 := (hSq.cell (p := ⟨g1, o1 + k * 4 + 3, none⟩) hg1).trans p3; have r0 := (hSq.cell (p := ⟨g2, o2 + k * 4, none⟩) hg2).trans q0; have r1 := (hSq.cell (p := ⟨g2, o2 + k * 4 + 1, none⟩) hg2).trans q1; have r2 := (hSq.cell (p := ⟨g2, o2 + k * 4 + 2, none⟩) hg2).trans q2; have r3 := (hSq.cell (p := ⟨g2, o2 + k * 4 + 3, none⟩) hg2).trans q3; go_simp <;> first | with_reducible rfl | rfl)
      simp only [Act.put, List.setIfInBounds_toArray, List.set_cons_zero, List.set_cons_succ]
      refine take_on (i := 5) (v := ?_) rfl rfl (by kernel_rfl) (by kernel_rfl) (by kernel_rfl) (fun _ _ _ h => h) rfl ?_ hHeld ?_
      rotate_left
      · (intro wq hSq; have s0 := (hSq.cell (p := ⟨g1, o1 + k * 4, none⟩) hg1).trans p0; have s1 := (hSq.cell (p := ⟨g1, o1 + k * 4 + 1, none⟩) hg1).trans p1; have s2 := (hSq.cell (p := ⟨g1, o1 + k * 4 + 2, none⟩) hg1).trans p2; have s3 := (hSq.cell (p := ⟨g1, o1 + k * 4 + 3, none⟩) hg1).trans p3; have r0 := (hSq.cell (p := ⟨g2, o2 + k * 4, none⟩) hg2).trans q0; have r1 := (hSq.cell (p := ⟨g2, o2 + k * 4 + 1, none⟩) hg2).trans q1; have r2 := (hSq.cell (p := ⟨g2, o2 + k * 4 + 2, none⟩) hg2).trans q2; have r3 := (hSq.cell (p := ⟨g2, o2 + k * 4 + 3, none⟩) hg2).trans q3; go_simp <;> first | with_reducible rfl | rfl)
      simp only [Act.put, List.setIfInBounds_toArray, List.set_cons_zero, List.set_cons_succ]
      refine take_on (i := 6) (v := ?_) rfl rfl (by kernel_rfl) (by kernel_rfl) (by kernel_rfl) (fun _ _ _ h => h) rfl ?_ hHeld ?_
      rotate_left
      · (intro wq hSq; have s0 := (hSq.cell (p := ⟨g1, o1 + k * 4, none⟩) hg1).trans p0; have s1 := (hSq.cell (p := ⟨g1, o1 + k * 4 + 1, none⟩) hg1).trans p1; have s2 := (hSq.cell (p := ⟨g1, o1 + k * 4 + 2, none⟩) hg1).trans p2; have s3 := (hSq.cell (p := ⟨g1, o1 + k * 4 + 3, none⟩) hg1).trans p3; have r0 := (hSq.cell (p := ⟨g2, o2 + k * 4, none⟩) hg2).trans q0; have r1 := (hSq.cell (p := ⟨g2, o2 + k * 4 + 1, none⟩) hg2).trans q1; have r2 := (hSq.cell (p := ⟨g2, o2 + k * 4 + 2, none⟩) hg2).trans q2; have r3 := (hSq.cell (p := ⟨g2, o2 + k * 4 + 3, none⟩) hg2).trans q3; go_simp <;> first | with_reducible rfl | rfl)
      simp only [Act.put, List.setIfInBounds_toArray, List.set_cons_zero, List.set_cons_succ]
      refine take_on (i := 7) (v := ?_) rfl rfl (by kernel_rfl) (by kernel_rfl) (by kernel_rfl) (fun _ _ _ h => h) rfl ?_ hHeld ?_
      rotate_left
      · (intro wq hSq; have s0 := (hSq.cell (p := ⟨g1, o1 + k * 4, none⟩) hg1).trans p0; have s1 := (hSq.cell (p := ⟨g1, o1 + k * 4 + 1, none⟩) hg1).trans p1; have s2 := (hSq.cell (p := ⟨g1, o1 + k * 4 + 2, none⟩) hg1).trans p2; have s3 := (hSq.cell (p := ⟨g1, o1 + k * 4 + 3, none⟩) hg1).trans p3; have r0 := (hSq.cell (p := ⟨g2, o2 + k * 4, none⟩) hg2).trans q0; have r1 := (hSq.cell (p := ⟨g2, o2 + k * 4 + 1, none⟩) hg2).trans q1; have r2 := (hSq.cell (p := ⟨g2, o2 + k * 4 + 2, none⟩) hg2).trans q2; have r3 := (hSq.cell (p := ⟨g2, o2 + k * 4 + 3, none⟩) hg2).trans q3; go_simp <;> first | with_reducible rfl | rfl)
      simp only [Act.put, List.setIfInBounds_toArray, List.set_cons_zero, List.set_cons_succ]
      refine take_on (i := 8) (v := ?_) rfl rfl (by kernel_rfl) (by kernel_rfl) (by kernel_rfl) (fun _ _ _ h => h) rfl ?_ hHeld ?_
      rotate_left
      · (intro wq hSq; have s0 := (hSq.cell (p := ⟨g1, o1 + k * 4, none⟩) hg1).trans p0; have s1 := (hSq.cell (p := ⟨g1, o1 + k * 4 + 1, none⟩) hg1).trans p1; have s2 := (hSq.cell (p := ⟨g1, o1 + k * 4 + 2, none⟩) hg1).trans p2; have s3 := (hSq.cell (p := ⟨g1, o1 + k * 4 + 3, none⟩) hg1).trans p3; have r0 := (hSq.cell (p := ⟨g2, o2 + k * 4, none⟩) hg2).trans q0; have r1 := (hSq.cell (p := ⟨g2, o2 + k * 4 + 1, none⟩) hg2).trans q1; have r2 := (hSq.cell (p := ⟨g2, o2 + k * 4 + 2, none⟩) hg2).trans q2; have r3 := (hSq.cell (p := ⟨g2, o2 + k * 4 + 3, none⟩) hg2).trans q3; go_simp <;> first | with_reducible rfl | rfl)
      simp only [Act.put, List.setIfInBounds_toArray, List.set_cons_zero, List.set_cons_succ]
      refine take_on (i := 9) (v := ?_) rfl rfl (by kernel_rfl) (by kernel_rfl) (by kernel_rfl) (fun _ _ _ h => h) rfl ?_ hHeld ?_
      rotate_left
      · (intro wq hSq; have s0 := (hSq.cell (p := ⟨g1, o1 + k * 4, none⟩) hg1).trans p0; have s1 := (hSq.cell (p := ⟨g1, o1 + k * 4 + 1, none⟩) hg1).trans p1; have s2 := (hSq.cell (p := ⟨g1, o1 + k * 4 + 2, none⟩) hg1).trans p2; have s3 := (hSq.cell (p := ⟨g1, o1 + k * 4 + 3, none⟩) hg1).trans p3; have r0 := (hSq.cell (p := ⟨g2, o2 + k * 4, none⟩) hg2).trans q0; have r1 := (hSq.cell (p := ⟨g2, o2 + k * 4 + 1, none⟩) hg2).trans q1; have r2 := (hSq.cell (p := ⟨g2, o2 + k * 4 + 2, none⟩) hg2).trans q2; have r3 := (hSq.cell (p := ⟨g2, o2 + k * 4 + 3, none⟩) hg2).trans q3; go_simp <;> first | with_reducible rfl | rfl)
      simp only [Act.put, List.setIfInBounds_toArray, List.set_cons_zero, List.set_cons_succ]
      refine take_on (i := 10) (v := ?_) rfl rfl (by kernel_rfl) (by kernel_rfl) (by kernel_rfl) (fun _ _ _ h => h) rfl ?_ hHeld ?_
      rotate_left
      · (intro wq hSq; have s0 := (hSq.cell (p := ⟨g1, o1 + k * 4, none⟩) hg1).trans p0; have s1 := (hSq.cell (p := ⟨g1, o1 + k * 4 + 1, none⟩) hg1).trans p1; have s2 := (hSq.cell (p := ⟨g1, o1 + k * 4 + 2, none⟩) hg1).trans p2; have s3 := (hSq.cell (p := ⟨g1, o1 + k * 4 + 3, none⟩) hg1).trans p3; have r0 := (hSq.cell (p := ⟨g2, o2 + k * 4, none⟩) hg2).trans q0; have r1 := (hSq.cell (p := ⟨g2, o2 + k * 4 + 1, none⟩) hg2).trans q1; have r2 := (hSq.cell (p := ⟨g2, o2 + k * 4 + 2, none⟩) hg2).trans q2; have r3 := (hSq.cell (p := ⟨g2, o2 + k * 4 + 3, none⟩) hg2).trans q3; go_simp <;> first | with_reducible rfl | rfl)
      simp only [Act.put, List.setIfInBounds_toArray, List.set_cons_zero, List.set_cons_succ]
      refine take_on (i := 11) (v := ?_) rfl rfl (by kernel_rfl) (by kernel_rfl) (by kernel_rfl) (fun _ _ _ h => h) rfl ?_ hHeld ?_
      rotate_left
      · (intro wq hSq; have s0 := (hSq.cell (p := ⟨g1, o1 + k * 4, none⟩) hg1).trans p0; have s1 := (hSq.cell (p := ⟨g1, o1 + k * 4 + 1, none⟩) hg1).trans p1; have s2 := (hSq.cell (p := ⟨g1, o1 + k * 4 + 2, none⟩) hg1).trans p2; have s3 := (hSq.cell (p := ⟨g1, o1 + k * 4 + 3, none⟩) hg1).trans p3; have r0 := (hSq.cell (p := ⟨g2, o2 + k * 4, none⟩) hg2).trans q0; have r1 := (hSq.cell (p := ⟨g2, o2 + k * 4 + 1, none⟩) hg2).trans q1; have r2 := (hSq.cell (p := ⟨g2, o2 + k * 4 + 2, none⟩) hg2).trans q2; have r3 := (hSq.cell (p := ⟨g2, o2 + k * 4 + 3, none⟩) hg2).trans q3; go_simp <;> first | with_reducible rfl | rfl)
      simp only [Act.put, List.setIfInBounds_toArray, List.set_cons_zero, List.set_cons_succ]
      refine take_on (i := 12) (v := ?_) rfl rfl (by kernel_rfl) (by kernel_rfl) (by kernel_rfl) (fun _ _ _ h => h) rfl ?_ hHeld ?_
      rotate_left
      · (intro wq hSq; have s0 := (hSq.cell (p := ⟨g1, o1 + k * 4, none⟩) hg1).trans p0; have s1 := (hSq.cell (p := ⟨g1, o1 + k * 4 + 1, none⟩) hg1).trans p1; have s2 := (hSq.cell (p := ⟨g1, o1 + k * 4 + 2, none⟩) hg1).trans p2; have s3 := (hSq.cell (p := ⟨g1, o1 + k * 4 + 3, none⟩) hg1).trans p3; have r0 := (hSq.cell (p := ⟨g2, o2 + k * 4, none⟩) hg2).trans q0; have r1 := (hSq.cell (p := ⟨g2, o2 + k * 4 + 1, none⟩) hg2).trans q1; have r2 := (hSq.cell (p := ⟨g2, o2 + k * 4 + 2, none⟩) hg2).trans q2; have r3 := (hSq.cell (p := ⟨g2, o2 + k * 4 + 3, none⟩) hg2).trans q3; go_simp <;> first | with_reducible rfl | rfl)
      simp only [Act.put, List.setIfInBounds_toArray, List.set_cons_zero, List.set_cons_succ]
      refine take_on (i := 13) (v := ?_) rfl rfl (by kernel_rfl) (by kernel_rfl) (by kernel_rfl) (fun _ _ _ h => h) rfl ?_ hHeld ?_
      rotate_left
      · (intro wq hSq; have s0 := (hSq.cell (p := ⟨g1, o1 + k * 4, none⟩) hg1).trans p0; have s1 := (hSq.cell (p := ⟨g1, o1 + k * 4 + 1, none⟩) hg1).trans p1; have s2 := (hSq.cell (p := ⟨g1, o1 + k * 4 + 2, none⟩) hg1).trans p2; have s3 := (hSq.cell (p := ⟨g1, o1 + k * 4 + 3, none⟩) hg1).trans p3; have r0 := (hSq.cell (p := ⟨g2, o2 + k * 4, none⟩) hg2).trans q0; have r1 := (hSq.cell (p := ⟨g2, o2 + k * 4 + 1, none⟩) hg2).trans q1; have r2 := (hSq.cell (p := ⟨g2, o2 + k * 4 + 2, none⟩) hg2).trans q2; have r3 := (hSq.cell (p := ⟨g2, o2 + k * 4 + 3, none⟩) hg2).trans q3; go_simp <;> first | with_reducible rfl | rfl)
      simp only [Act.put, List.setIfInBounds_toArray, List.set_cons_zero, List.set_cons_succ]
      refine take_on (i := 14) (v := ?_) rfl rfl (by kernel_rfl) (by kernel_rfl) (by kernel_rfl) (fun _ _ _ h => h) rfl ?_ hHeld ?_
      rotate_left
      · (intro wq hSq; have s0 := (hSq.cell (p := ⟨g1, o1 + k * 4, none⟩) hg1).trans p0; have s1 := (hSq.cell (p := ⟨g1, o1 + k * 4 + 1, none⟩) hg1).trans p1; have s2 := (hSq.cell (p := ⟨g1, o1 + k * 4 + 2, none⟩) hg1).trans p2; have s3 := (hSq.cell (p := ⟨g1, o1 + k * 4 + 3, none⟩) hg1).trans p3; have r0 := (hSq.cell (p := ⟨g2, o2 + k * 4, none⟩) hg2).trans q0; have r1 := (hSq.cell (p := ⟨g2, o2 + k * 4 + 1, none⟩) hg2).trans q1; have r2 := (hSq.cell (p := ⟨g2, o2 + k * 4 + 2, none⟩) hg2).trans q2; have r3 := (hSq.cell (p := ⟨g2, o2 + k * 4 + 3, none⟩) hg2).trans q3; go_simp <;> first | with_reducible rfl | rfl)
      simp only [Act.put, List.setIfInBounds_toArray, List.set_cons_zero, List.set_cons_succ]
      refine take_on (i := 15) (v := ?_) rfl rfl (by kernel_rfl) (by kernel_rfl) (by kernel_rfl) (fun _ _ _ h => h) rfl ?_ hHeld ?_
      rotate_left
      · (intro wq hSq; have s0 := (hSq.cell (p := ⟨g1, o1 + k * 4, none⟩) hg1).trans p0; have s1 := (hSq.cell (p := ⟨g1, o1 + k * 4 + 1, none⟩) hg1).trans p1; have s2 := (hSq.cell (p := ⟨g1, o1 + k * 4 + 2, none⟩) hg1).trans p2; have s3 := (hSq.cell (p := ⟨g1, o1 + k * 4 + 3, none⟩) hg1).trans p3; have r0 := (hSq.cell (p := ⟨g2, o2 + k * 4, none⟩) hg2).trans q0; have r1 := (hSq.cell (p := ⟨g2, o2 + k * 4 + 1, none⟩) hg2).trans q1; have r2 := (hSq.cell (p := ⟨g2, o2 + k * 4 + 2, none⟩) hg2).trans q2; have r3 := (hSq.cell (p := ⟨g2, o2 + k * 4 + 3, none⟩) hg2).trans q3; go_simp <;> first | with_reducible rfl | rfl)
      simp only [Act.put, List.setIfInBounds_toArray, List.set_cons_zero, List.set_cons_succ]
      refine take_on (i := 16) (v := ?_) rfl rfl (by kernel_rfl) (by kernel_rfl) (by kernel_rfl) (fun _ _ _ h => h) rfl ?_ hHeld ?_
      rotate_left
      · (intro wq hSq; have s0 := (hSq.cell (p := ⟨g1, o1 + k * 4, none⟩) hg1).trans p0; have s1 := (hSq.cell (p := ⟨g1, o1 + k * 4 + 1, none⟩) hg1).trans p1; have s2 := (hSq.cell (p := ⟨g1, o1 + k * 4 + 2, none⟩) hg1).trans p2; have s3 := (hSq.cell (p := ⟨g1, o1 + k * 4 + 3, none⟩) hg1).trans p3; have r0 := (hSq.cell (p := ⟨g2, o2 + k * 4, none⟩) hg2).trans q0; have r1 := (hSq.cell (p := ⟨g2, o2 + k * 4 + 1, none⟩) hg2).trans q1; have r2 := (hSq.cell (p := ⟨g2, o2 + k * 4 + 2, none⟩) hg2).trans q2; have r3 := (hSq.cell (p := ⟨g2, o2 + k * 4 + 3, none⟩) hg2).trans q3; go_simp <;> first | with_reducible rfl | rfl)
      simp only [Act.put, List.setIfInBounds_toArray, List.set_cons_zero, List.set_cons_succ]
      refine take_on (i := 17) (v := ?_) rfl rfl (by kernel_rfl) (by kernel_rfl) (by kernel_rfl) (fun _ _ _ h => h) rfl ?_ hHeld ?_
      rotate_left
      · (intro wq hSq; have s0 := (hSq.cell (p := ⟨g1, o1 + k * 4, none⟩) hg1).trans p0; have s1 := (hSq.cell (p := ⟨g1, o1 + k * 4 + 1, none⟩) hg1).trans p1; have s2 := (hSq.cell (p := ⟨g1, o1 + k * 4 + 2, none⟩) hg1).trans p2; have s3 := (hSq.cell (p := ⟨g1, o1 + k * 4 + 3, none⟩) hg1).trans p3; have r0 := (hSq.cell (p := ⟨g2, o2 + k * 4, none⟩) hg2).trans q0; have r1 := (hSq.cell (p := ⟨g2, o2 + k * 4 + 1, none⟩) hg2).trans q1; have r2 := (hSq.cell (p := ⟨g2, o2 + k * 4 + 2, none⟩) hg2).trans q2; have r3 := (hSq.cell (p := ⟨g2, o2 + k * 4 + 3, none⟩) hg2).trans q3; go_simp <;> first | with_reducible rfl | rfl)
      simp only [Act.put, List.setIfInBounds_toArray, List.set_cons_zero, List.set_cons_succ]
      refine take_on (i := 18) (v := ?_) rfl rfl (by kernel_rfl) (by kernel_rfl) (by kernel_rfl) (fun _ _ _ h => h) rfl ?_ hHeld ?_
      rotate_left
      · (intro wq hSq; have s0 := (hSq.cell (p := ⟨g1, o1 + k * 4, none⟩) hg1).trans p0; have s1 := (hSq.cell (p := ⟨g1, o1 + k * 4 + 1, none⟩) hg1).trans p1; have s2 := (hSq.cell (p := ⟨g1, o1 + k * 4 + 2, none⟩) hg1).trans p2; have s3 := (hSq.cell (p := ⟨g1, o1 + k * 4 + 3, none⟩) hg1).trans p3; have r0 := (hSq.cell (p := ⟨g2, o2 + k * 4, none⟩) hg2).trans q0; have r1 := (hSq.cell (p := ⟨g2, o2 + k * 4 + 1, none⟩) hg2).trans q1; have r2 := (hSq.cell (p := ⟨g2, o2 + k * 4 + 2, none⟩) hg2).trans q2; have r3 := (hSq.cell (p := ⟨g2, o2 + k * 4 + 3, none⟩) hg2).trans q3; go_simp <;> first | with_reducible rfl | rfl)
      simp only [Act.put, List.setIfInBounds_toArray, List.set_cons_zero, List.set_cons_succ]
      refine take_on (i := 19) (v := ?_) rfl rfl (by kernel_rfl) (by kernel_rfl) (by kernel_rfl) (fun _ _ _ h => h) rfl ?_ hHeld ?_
      rotate_left
      · (intro wq hSq; have s0 := (hSq.cell (p := ⟨g1, o1 + k * 4, none⟩) hg1).trans p0; have s1 := (hSq.cell (p := ⟨g1, o1 + k * 4 + 1, none⟩) hg1).trans p1; have s2 := (hSq.cell (p := ⟨g1, o1 + k * 4 + 2, none⟩) hg1).trans p2; have s3 := (hSq.cell (p := ⟨g1, o1 + k * 4 + 3, none⟩) hg1).trans p3; have r0 := (hSq.cell (p := ⟨g2, o2 + k * 4, none⟩) hg2).trans q0; have r1 := (hSq.cell (p := ⟨g2, o2 + k * 4 + 1, none⟩) hg2).trans q1; have r2 := (hSq.cell (p := ⟨g2, o2 + k * 4 + 2, none⟩) hg2).trans q2; have r3 := (hSq.cell (p := ⟨g2, o2 + k * 4 + 3, none⟩) hg2).trans q3; go_simp <;> first | with_reducible rfl | rfl)
      simp only [Act.put, List.setIfInBounds_toArray, List.set_cons_zero, List.set_cons_succ]
      refine take_on (i := 20) (v := ?_) rfl rfl (by kernel_rfl) (by kernel_rfl) (by kernel_rfl) (fun _ _ _ h => h) rfl ?_ hHeld ?_
      rotate_left
      · (intro wq hSq; have s0 := (hSq.cell (p := ⟨g1, o1 + k * 4, none⟩) hg1).trans p0; have s1 := (hSq.cell (p := ⟨g1, o1 + k * 4 + 1, none⟩) hg1).trans p1; have s2 := (hSq.cell (p := ⟨g1, o1 + k * 4 + 2, none⟩) hg1).trans p2; have s3 := (hSq.cell (p := ⟨g1, o1 + k * 4 + 3, none⟩) hg1).trans p3; have r0 := (hSq.cell (p := ⟨g2, o2 + k * 4, none⟩) hg2).trans q0; have r1 := (hSq.cell (p := ⟨g2, o2 + k * 4 + 1, none⟩) hg2).trans q1; have r2 := (hSq.cell (p := ⟨g2, o2 + k * 4 + 2, none⟩) hg2).trans q2; have r3 := (hSq.cell (p := ⟨g2, o2 + k * 4 + 3, none⟩) hg2).trans q3; go_simp <;> first | with_reducible rfl | rfl)
      simp only [Act.put, List.setIfInBounds_toArray, List.set_cons_zero, List.set_cons_succ]
      refine take_on (i := 21) (v := ?_) rfl rfl (by kernel_rfl) (by kernel_rfl) (by kernel_rfl) (fun _ _ _ h => h) rfl ?_ hHeld ?_
      rotate_left
      · (intro wq hSq; have s0 := (hSq.cell (p := ⟨g1, o1 + k * 4, none⟩) hg1).trans p0; have s1 := (hSq.cell (p := ⟨g1, o1 + k * 4 + 1, none⟩) hg1).trans p1; have s2 := (hSq.cell (p := ⟨g1, o1 + k * 4 + 2, none⟩) hg1).trans p2; have s3 := (hSq.cell (p := ⟨g1, o1 + k * 4 + 3, none⟩) hg1).trans p3; have r0 := (hSq.cell (p := ⟨g2, o2 + k * 4, none⟩) hg2).trans q0; have r1 := (hSq.cell (p := ⟨g2, o2 + k * 4 + 1, none⟩) hg2).trans q1; have r2 := (hSq.cell (p := ⟨g2, o2 + k * 4 + 2, none⟩) hg2).trans q2; have r3 := (hSq.cell (p := ⟨g2, o2 + k * 4 + 3, none⟩) hg2).trans q3; go_simp <;> first | with_reducible rfl | rfl)
      simp only [Act.put, List.setIfInBounds_toArray, List.set_cons_zero, List.set_cons_succ]
      refine take_on (i := 22) (v := ?_) rfl rfl (by kernel_rfl) (by kernel_rfl) (by kernel_rfl) (fun _ _ _ h => h) rfl ?_ hHeld ?_
      rotate_left
      · (intro wq hSq; have s0 := (hSq.cell (p := ⟨g1, o1 + k * 4, none⟩) hg1).trans p0; have s1 := (hSq.cell (p := ⟨g1, o1 + k * 4 + 1, none⟩) hg1).trans p1; have s2 := (hSq.cell (p := ⟨g1, o1 + k * 4 + 2, none⟩) hg1).trans p2; have s3 := (hSq.cell (p := ⟨g1, o1 + k * 4 + 3, none⟩) hg1).trans p3; have r0 := (hSq.cell (p := ⟨g2, o2 + k * 4, none⟩) hg2).trans q0; have r1 := (hSq.cell (p := ⟨g2, o2 + k * 4 + 1, none⟩) hg2).trans q1; have r2 := (hSq.cell (p := ⟨g2, o2 + k * 4 + 2, none⟩) hg2).trans q2; have r3 := (hSq.cell (p := ⟨g2, o2 + k * 4 + 3, none⟩) hg2).trans q3; go_simp <;> first | with_reducible rfl | rfl)
      simp only [Act.put, List.setIfInBounds_toArray, List.set_cons_zero, List.set_cons_succ]
      refine take_on (i := 23) (v := ?_) rfl rfl (by kernel_rfl) (by kernel_rfl) (by kernel_rfl) (fun _ _ _ h => h) rfl ?_ hHeld ?_
      rotate_left
      · (intro wq hSq; have s0 := (hSq.cell (p := ⟨g1, o1 + k * 4, none⟩) hg1).trans p0; have s1 := (hSq.cell (p := ⟨g1, o1 + k * 4 + 1, none⟩) hg1).trans p1; have s2 := (hSq.cell (p := ⟨g1, o1 + k * 4 + 2, none⟩) hg1).trans p2; have s3 := (hSq.cell (p := ⟨g1, o1 + k * 4 + 3, none⟩) hg1).trans p3; have r0 := (hSq.cell (p := ⟨g2, o2 + k * 4, none⟩) hg2).trans q0; have r1 := (hSq.cell (p := ⟨g2, o2 + k * 4 + 1, none⟩) hg2).trans q1; have r2 := (hSq.cell (p := ⟨g2, o2 + k * 4 + 2, none⟩) hg2).trans q2; have r3 := (hSq.cell (p := ⟨g2, o2 + k * 4 + 3, none⟩) hg2).trans q3; go_simp <;> first | with_reducible rfl | rfl)
      simp only [Act.put, List.setIfInBounds_toArray, List.set_cons_zero, List.set_cons_succ]
      refine take_on (i := 24) (v := ?_) rfl rfl (by kernel_rfl) (by kernel_rfl) (by kernel_rfl) (fun _ _ _ h => h) rfl ?_ hHeld ?_
      rotate_left
      · (intro wq hSq; have s0 := (hSq.cell (p := ⟨g1, o1 + k * 4, none⟩) hg1).trans p0; have s1 := (hSq.cell (p := ⟨g1, o1 + k * 4 + 1, none⟩) hg1).trans p1; have s2 := (hSq.cell (p := ⟨g1, o1 + k * 4 + 2, none⟩) hg1).trans p2; have s3 := (hSq.cell (p := ⟨g1, o1 + k * 4 + 3, none⟩) hg1).trans p3; have r0 := (hSq.cell (p := ⟨g2, o2 + k * 4, none⟩) hg2).trans q0; have r1 := (hSq.cell (p := ⟨g2, o2 + k * 4 + 1, none⟩) hg2).trans q1; have r2 := (hSq.cell (p := ⟨g2, o2 + k * 4 + 2, none⟩) hg2).trans q2; have r3 := (hSq.cell (p := ⟨g2, o2 + k * 4 + 3, none⟩) hg2).trans q3; go_simp <;> first | with_reducible rfl | rfl)
      simp only [Act.put, List.setIfInBounds_toArray, List.set_cons_zero, List.set_cons_succ]
      refine take_on (i := 25) (v := ?_) rfl rfl (by kernel_rfl) (by kernel_rfl) (by kernel_rfl) (fun _ _ _ h => h) rfl ?_ hHeld ?_
      rotate_left
      · (intro wq hSq; have s0 := (hSq.cell (p := ⟨g1, o1 + k * 4, none⟩) hg1).trans p0; have s1 := (hSq.cell (p := ⟨g1, o1 + k * 4 + 1, none⟩) hg1).trans p1; have s2 := (hSq.cell (p := ⟨g1, o1 + k * 4 + 2, none⟩) hg1).trans p2; have s3 := (hSq.cell (p := ⟨g1, o1 + k * 4 + 3, none⟩) hg1).trans p3; have r0 := (hSq.cell (p := ⟨g2, o2 + k * 4, none⟩) hg2).trans q0; have r1 := (hSq.cell (p := ⟨g2, o2 + k * 4 + 1, none⟩) hg2).trans q1; have r2 := (hSq.cell (p := ⟨g2, o2 + k * 4 + 2, none⟩) hg2).trans q2; have r3 := (hSq.cell (p := ⟨g2, o2 + k * 4 + 3, none⟩) hg2).trans q3; go_simp <;> first | with_reducible rfl | rfl)
      simp only [Act.put, List.setIfInBounds_toArray, List.set_cons_zero, List.set_cons_succ]
      refine take_on (i := 26) (v := ?_) rfl rfl (by kernel_rfl) (by kernel_rfl) (by kernel_rfl) (fun _ _ _ h => h) rfl ?_ hHeld ?_
      rotate_left
      · (intro wq hSq; have s0 := (hSq.cell (p := ⟨g1, o1 + k * 4, none⟩) hg1).trans p0; have s1 := (hSq.cell (p := ⟨g1, o1 + k * 4 + 1, none⟩) hg1).trans p1; have s2 := (hSq.cell (p := ⟨g1, o1 + k * 4 + 2, none⟩) hg1).trans p2; have s3 := (hSq.cell (p := ⟨g1, o1 + k * 4 + 3, none⟩) hg1).trans p3; have r0 := (hSq.cell (p := ⟨g2, o2 + k * 4, none⟩) hg2).trans q0; have r1 := (hSq.cell (p := ⟨g2, o2 + k * 4 + 1, none⟩) hg2).trans q1; have r2 := (hSq.cell (p := ⟨g2, o2 + k * 4 + 2, none⟩) hg2).trans q2; have r3 := (hSq.cell (p := ⟨g2, o2 + k * 4 + 3, none⟩) hg2).trans q3; go_simp <;> first | with_reducible rfl | rfl)
      simp only [Act.put, List.setIfInBounds_toArray, List.set_cons_zero, List.set_cons_succ]
      refine take_on (i := 27) (v := ?_) rfl rfl (by kernel_rfl) (by kernel_rfl) (by kernel_rfl) (fun _ _ _ h => h) rfl ?_ hHeld ?_
      rotate_left
      · (intro wq hSq; have s0 := (hSq.cell (p := ⟨g1, o1 + k * 4, none⟩) hg1).trans p0; have s1 := (hSq.cell (p := ⟨g1, o1 + k * 4 + 1, none⟩) hg1).trans p1; have s2 := (hSq.cell (p := ⟨g1, o1 + k * 4 + 2, none⟩) hg1).trans p2; have s3 := (hSq.cell (p := ⟨g1, o1 + k * 4 + 3, none⟩) hg1).trans p3; have r0 := (hSq.cell (p := ⟨g2, o2 + k * 4, none⟩) hg2).trans q0; have r1 := (hSq.cell (p := ⟨g2, o2 + k * 4 + 1, none⟩) hg2).trans q1; have r2 := (hSq.cell (p := ⟨g2, o2 + k * 4 + 2, none⟩) hg2).trans q2; have r3 := (hSq.cell (p := ⟨g2, o2 + k * 4 + 3, none⟩) hg2).trans q3; go_simp <;> first | with_reducible rfl | rfl)
      simp only [Act.put, List.setIfInBounds_toArray, List.set_cons_zero, List.set_cons_succ]
      refine take_on (i := 28) (v := ?_) rfl rfl (by kernel_rfl) (by kernel_rfl) (by kernel_rfl) (fun _ _ _ h => h) rfl ?_ hHeld ?_
      rotate_left
      · (intro wq hSq; have s0 := (hSq.cell (p := ⟨g1, o1 + k * 4, none⟩) hg1).trans p0; have s1 := (hSq.cell (p := ⟨g1, o1 + k * 4 + 1, none⟩) hg1).trans p1; have s2 := (hSq.cell (p := ⟨g1, o1 + k * 4 + 2, none⟩) hg1).trans p2; have s3 := (hSq.cell (p := ⟨g1, o1 + k * 4 + 3, none⟩) hg1).trans p3; have r0 := (hSq.cell (p := ⟨g2, o2 + k * 4, none⟩) hg2).trans q0; have r1 := (hSq.cell (p := ⟨g2, o2 + k * 4 + 1, none⟩) hg2).trans q1; have r2 := (hSq.cell (p := ⟨g2, o2 + k * 4 + 2, none⟩) hg2).trans q2; have r3 := (hSq.cell (p := ⟨g2, o2 + k * 4 + 3, none⟩) hg2).trans q3; go_simp <;> first | with_reducible rfl | rfl)
      simp only [Act.put, List.setIfInBounds_toArray, List.set_cons_zero, List.set_cons_succ]
      refine take_on (i := 29) (v := ?_) rfl rfl (by kernel_rfl) (by kernel_rfl) (by kernel_rfl) (fun _ _ _ h => h) rfl ?_ hHeld ?_
      rotate_left
      · (intro wq hSq; have s0 := (hSq.cell (p := ⟨g1, o1 + k * 4, none⟩) hg1).trans p0; have s1 := (hSq.cell (p := ⟨g1, o1 + k * 4 + 1, none⟩) hg1).trans p1; have s2 := (hSq.cell (p := ⟨g1, o1 + k * 4 + 2, none⟩) hg1).trans p2; have s3 := (hSq.cell (p := ⟨g1, o1 + k * 4 + 3, none⟩) hg1).trans p3; have r0 := (hSq.cell (p := ⟨g2, o2 + k * 4, none⟩) hg2).trans q0; have r1 := (hSq.cell (p := ⟨g2, o2 + k * 4 + 1, none⟩) hg2).trans q1; have r2 := (hSq.cell (p := ⟨g2, o2 + k * 4 + 2, none⟩) hg2).trans q2; have r3 := (hSq.cell (p := ⟨g2, o2 + k * 4 + 3, none⟩) hg2).trans q3; go_simp <;> first | with_reducible rfl | rfl)
      simp only [Act.put, List.setIfInBounds_toArray, List.set_cons_zero, List.set_cons_succ]
      refine take_on (i := 30) (v := ?_) rfl rfl (by kernel_rfl) (by kernel_rfl) (by kernel_rfl) (fun _ _ _ h => h) rfl ?_ hHeld ?_
      rotate_left
      · (intro wq hSq; have s0 := (hSq.cell (p := ⟨g1, o1 + k * 4, none⟩) hg1).trans p0; have s1 := (hSq.cell (p := ⟨g1, o1 + k * 4 + 1, none⟩) hg1).trans p1; have s2 := (hSq.cell (p := ⟨g1, o1 + k * 4 + 2, none⟩) hg1).trans p2; have s3 := (hSq.cell (p := ⟨g1, o1 + k * 4 + 3, none⟩) hg1).trans p3; have r0 := (hSq.cell (p := ⟨g2, o2 + k * 4, none⟩) hg2).trans q0; have r1 := (hSq.cell (p := ⟨g2, o2 + k * 4 + 1, none⟩) hg2).trans q1; have r2 := (hSq.cell (p := ⟨g2, o2 + k * 4 + 2, none⟩) hg2).trans q2; have r3 := (hSq.cell (p := ⟨g2, o2 + k * 4 + 3, none⟩) hg2).trans q3; go_simp <;> first | with_reducible rfl | rfl)
      simp only [Act.put, List.setIfInBounds_toArray, List.set_cons_zero, List.set_cons_succ]
      refine take_on (i := 31) (v := ?_) rfl rfl (by kernel_rfl) (by kernel_rfl) (by kernel_rfl) (fun _ _ _ h => h) rfl ?_ hHeld ?_
      rotate_left
      · (intro wq hSq; have s0 := (hSq.cell (p := ⟨g1, o1 + k * 4, none⟩) hg1).trans p0; have s1 := (hSq.cell (p := ⟨g1, o1 + k * 4 + 1, none⟩) hg1).trans p1; have s2 := (hSq.cell (p := ⟨g1, o1 + k * 4 + 2, none⟩) hg1).trans p2; have s3 := (hSq.cell (p := ⟨g1, o1 + k * 4 + 3, none⟩) hg1).trans p3; have r0 := (hSq.cell (p := ⟨g2, o2 + k * 4, none⟩) hg2).trans q0; have r1 := (hSq.cell (p := ⟨g2, o2 + k * 4 + 1, none⟩) hg2).trans q1; have r2 := (hSq.cell (p := ⟨g2, o2 + k * 4 + 2, none⟩) hg2).trans q2; have r3 := (hSq.cell (p := ⟨g2, o2 + k * 4 + 3, none⟩) hg2).trans q3; go_simp <;> first | with_reducible rfl | rfl)
      simp only [Act.put, List.setIfInBounds_toArray, List.set_cons_zero, List.set_cons_succ]
      refine take_on (i := 32) (v := ?_) rfl rfl (by kernel_rfl) (by kernel_rfl) (by kernel_rfl) (fun _ _ _ h => h) rfl ?_ hHeld ?_
      rotate_left
      · (intro wq hSq; have s0 := (hSq.cell (p := ⟨g1, o1 + k * 4, none⟩) hg1).trans p0; have s1 := (hSq.cell (p := ⟨g1, o1 + k * 4 + 1, none⟩) hg1).trans p1; have s2 := (hSq.cell (p := ⟨g1, o1 + k * 4 + 2, none⟩) hg1).trans p2; have s3 := (hSq.cell (p := ⟨g1, o1 + k * 4 + 3, none⟩) hg1).trans p3; have r0 := (hSq.cell (p := ⟨g2, o2 + k * 4, none⟩) hg2).trans q0; have r1 := (hSq.cell (p := ⟨g2, o2 + k * 4 + 1, none⟩) hg2).trans q1; have r2 := (hSq.cell (p := ⟨g2, o2 + k * 4 + 2, none⟩) hg2).trans q2; have r3 := (hSq.cell (p := ⟨g2, o2 + k * 4 + 3, none⟩) hg2).trans q3; go_simp <;> first | with_reducible rfl | rfl)
      simp only [Act.put, List.setIfInBounds_toArray, List.set_cons_zero, List.set_cons_succ]
      refine take_on (i := 33) (v := ?_) rfl rfl (by kernel_rfl) (by kernel_rfl) (by kernel_rfl) (fun _ _ _ h => h) rfl ?_ hHeld ?_
      rotate_left
      · (intro wq hSq; have s0 := (hSq.cell (p := ⟨g1, o1 + k * 4, none⟩) hg1).trans p0; have s1 := (hSq.cell (p := ⟨g1, o1 + k * 4 + 1, none⟩) hg1).trans p1; have s2 := (hSq.cell (p := ⟨g1, o1 + k * 4 + 2, none⟩) hg1).trans p2; have s3 := (hSq.cell (p := ⟨g1, o1 + k * 4 + 3, none⟩) hg1).trans p3; have r0 := (hSq.cell (p := ⟨g2, o2 + k * 4, none⟩) hg2).trans q0; have r1 := (hSq.cell (p := ⟨g2, o2 + k * 4 + 1, none⟩) hg2).trans q1; have r2 := (hSq.cell (p := ⟨g2, o2 + k * 4 + 2, none⟩) hg2).trans q2; have r3 := (hSq.cell (p := ⟨g2, o2 + k * 4 + 3, none⟩) hg2).trans q3; go_simp <;> first | with_reducible rfl | rfl)
      simp only [Act.put, List.setIfInBounds_toArray, List.set_cons_zero, List.set_cons_succ]
      refine take_on (i := 34) (v := ?_) rfl rfl (by kernel_rfl) (by kernel_rfl) (by kernel_rfl) (fun _ _ _ h => h) rfl ?_ hHeld ?_
      rotate_left
      · (intro wq hSq; have s0 := (hSq.cell (p := ⟨g1, o1 + k * 4, none⟩) hg1).trans p0; have s1 := (hSq.cell (p := ⟨g1, o1 + k * 4 + 1, none⟩) hg1).trans p1; have s2 := (hSq.cell (p := ⟨g1, o1 + k * 4 + 2, none⟩) hg1).trans p2; have s3 := (hSq.cell (p := ⟨g1, o1 + k * 4 + 3, none⟩) hg1).trans p3; have r0 := (hSq.cell (p := ⟨g2, o2 + k * 4, none⟩) hg2).trans q0; have r1 := (hSq.cell (p := ⟨g2, o2 + k * 4 + 1, none⟩) hg2).trans q1; have r2 := (hSq.cell (p := ⟨g2, o2 + k * 4 + 2, none⟩) hg2).trans q2; have r3 := (hSq.cell (p := ⟨g2, o2 + k * 4 + 3, none⟩) hg2).trans q3; go_simp <;> first | with_reducible rfl | rfl)
      simp only [Act.put, List.setIfInBounds_toArray, List.set_cons_zero, List.set_cons_succ]
      refine take_on (i := 35) (v := ?_) rfl rfl (by kernel_rfl) (by kernel_rfl) (by kernel_rfl) (fun _ _ _ h => h) rfl ?_ hHeld ?_
      rotate_left
      · (intro wq hSq; have s0 := (hSq.cell (p := ⟨g1, o1 + k * 4, none⟩) hg1).trans p0; have s1 := (hSq.cell (p := ⟨g1, o1 + k * 4 + 1, none⟩) hg1).trans p1; have s2 := (hSq.cell (p := ⟨g1, o1 + k * 4 + 2, none⟩) hg1).trans p2; have s3 := (hSq.cell (p := ⟨g1, o1 + k * 4 + 3, none⟩) hg1).trans p3; have r0 := (hSq.cell (p := ⟨g2, o2 + k * 4, none⟩) hg2).trans q0; have r1 := (hSq.cell (p := ⟨g2, o2 + k * 4 + 1, none⟩) hg2).trans q1; have r2 := (hSq.cell (p := ⟨g2, o2 + k * 4 + 2, none⟩) hg2).trans q2; have r3 := (hSq.cell (p := ⟨g2, o2 + k * 4 + 3, none⟩) hg2).trans q3; go_simp <;> first | with_reducible rfl | rfl)
      simp only [Act.put, List.setIfInBounds_toArray, List.set_cons_zero, List.set_cons_succ]
      refine take_on (i := 36) (v := ?_) rfl rfl (by kernel_rfl) (by kernel_rfl) (by kernel_rfl) (fun _ _ _ h => h) rfl ?_ hHeld ?_
      rotate_left
      · (intro wq hSq; have s0 := (hSq.cell (p := ⟨g1, o1 + k * 4, none⟩) hg1).trans p0; have s1 := (hSq.cell (p := ⟨g1, o1 + k * 4 + 1, none⟩) hg1).trans p1; have s2 := (hSq.cell (p := ⟨g1, o1 + k * 4 + 2, none⟩) hg1).trans p2; have s3 := (hSq.cell (p := ⟨g1, o1 + k * 4 + 3, none⟩) hg1).trans p3; have r0 := (hSq.cell (p := ⟨g2, o2 + k * 4, none⟩) hg2).trans q0; have r1 := (hSq.cell (p := ⟨g2, o2 + k * 4 + 1, none⟩) hg2).trans q1; have r2 := (hSq.cell (p := ⟨g2, o2 + k * 4 + 2, none⟩) hg2).trans q2; have r3 := (hSq.cell (p := ⟨g2, o2 + k * 4 + 3, none⟩) hg2).trans q3; go_simp <;> first | with_reducible rfl | rfl)
      simp only [Act.put, List.setIfInBounds_toArray, List.set_cons_zero, List.set_cons_succ]
      refine take_on (i := 37) (v := ?_) rfl rfl (by kernel_rfl) (by kernel_rfl) (by kernel_rfl) (fun _ _ _ h => h) rfl ?_ hHeld ?_
      rotate_left
      · (intro wq hSq; have s0 := (hSq.cell (p := ⟨g1, o1 + k * 4, none⟩) hg1).trans p0; have s1 := (hSq.cell (p := ⟨g1, o1 + k * 4 + 1, none⟩) hg1).trans p1; have s2 := (hSq.cell (p := ⟨g1, o1 + k * 4 + 2, none⟩) hg1).trans p2; have s3 := (hSq.cell (p := ⟨g1, o1 + k * 4 + 3, none⟩) hg1).trans p3; have r0 := (hSq.cell (p := ⟨g2, o2 + k * 4, none⟩) hg2).trans q0; have r1 := (hSq.cell (p := ⟨g2, o2 + k * 4 + 1, none⟩) hg2).trans q1; have r2 := (hSq.cell (p := ⟨g2, o2 + k * 4 + 2, none⟩) hg2).trans q2; have r3 := (hSq.cell (p := ⟨g2, o2 + k * 4 + 3, none⟩) hg2).trans q3; go_simp <;> first | with_reducible rfl | rfl)
      simp only [Act.put, List.setIfInBounds_toArray, List.set_cons_zero, List.set_cons_succ]
      refine take_on (i := 38) (v := ?_) rfl rfl (by kernel_rfl) (by kernel_rfl) (by kernel_rfl) (fun _ _ _ h => h) rfl ?_ hHeld ?_
      rotate_left
      · (intro wq hSq; have s0 := (hSq.cell (p := ⟨g1, o1 + k * 4, none⟩) hg1).trans p0; have s1 := (hSq.cell (p := ⟨g1, o1 + k * 4 + 1, none⟩) hg1).trans p1; have s2 := (hSq.cell (p := ⟨g1, o1 + k * 4 + 2, none⟩) hg1).trans p2; have s3 := (hSq.cell (p := ⟨g1, o1 + k * 4 + 3, none⟩) hg1).trans p3; have r0 := (hSq.cell (p := ⟨g2, o2 + k * 4, none⟩) hg2).trans q0; have r1 := (hSq.cell (p := ⟨g2, o2 + k * 4 + 1, none⟩) hg2).trans q1; have r2 := (hSq.cell (p := ⟨g2, o2 + k * 4 + 2, none⟩) hg2).trans q2; have r3 := (hSq.cell (p := ⟨g2, o2 + k * 4 + 3, none⟩) hg2).trans q3; go_simp <;> first | with_reducible rfl | rfl)
      simp only [Act.put, List.setIfInBounds_toArray, List.set_cons_zero, List.set_cons_succ]
      refine take_on (i := 39) (v := ?_) rfl rfl (by kernel_rfl) (by kernel_rfl) (by kernel_rfl) (fun _ _ _ h => h) rfl ?_ hHeld ?_
      rotate_left
      · (intro wq hSq; have s0 := (hSq.cell (p := ⟨g1, o1 + k * 4, none⟩) hg1).trans p0; have s1 := (hSq.cell (p := ⟨g1, o1 + k * 4 + 1, none⟩) hg1).trans p1; have s2 := (hSq.cell (p := ⟨g1, o1 + k * 4 + 2, none⟩) hg1).trans p2; have s3 := (hSq.cell (p := ⟨g1, o1 + k * 4 + 3, none⟩) hg1).trans p3; have r0 := (hSq.cell (p := ⟨g2, o2 + k * 4, none⟩) hg2).trans q0; have r1 := (hSq.cell (p := ⟨g2, o2 + k * 4 + 1, none⟩) hg2).trans q1; have r2 := (hSq.cell (p := ⟨g2, o2 + k * 4 + 2, none⟩) hg2).trans q2; have r3 := (hSq.cell (p := ⟨g2, o2 + k * 4 + 3, none⟩) hg2).trans q3; go_simp <;> first | with_reducible rfl | rfl)
      simp only [Act.put, List.setIfInBounds_toArray, List.set_cons_zero, List.set_cons_succ]
      refine take_on (i := 40) (v := ?_) rfl rfl (by kernel_rfl) (by kernel_rfl) (by kernel_rfl) (fun _ _ _ h => h) rfl ?_ hHeld ?_
      rotate_left
      · (intro wq hSq; have s0 := (hSq.cell (p := ⟨g1, o1 + k * 4, none⟩) hg1).trans p0; have s1 := (hSq.cell (p := ⟨g1, o1 + k * 4 + 1, none⟩) hg1).trans p1; have s2 := (hSq.cell (p := ⟨g1, o1 + k * 4 + 2, none⟩) hg1).trans p2; have s3 := (hSq.cell (p := ⟨g1, o1 + k * 4 + 3, none⟩) hg1).trans p3; have r0 := (hSq.cell (p := ⟨g2, o2 + k * 4, none⟩) hg2).trans q0; have r1 := (hSq.cell (p := ⟨g2, o2 + k * 4 + 1, none⟩) hg2).trans q1; have r2 := (hSq.cell (p := ⟨g2, o2 + k * 4 + 2, none⟩) hg2).trans q2; have r3 := (hSq.cell (p := ⟨g2, o2 + k * 4 + 3, none⟩) hg2).trans q3; go_simp <;> first | with_reducible rfl | rfl)
      simp only [Act.put, List.setIfInBounds_toArray, List.set_cons_zero, List.set_cons_succ]
      refine take_on (i := 41) (v := ?_) rfl rfl (by kernel_rfl) (by kernel_rfl) (by kernel_rfl) (fun _ _ _ h => h) rfl ?_ hHeld ?_
      rotate_left
      · (intro wq hSq; have s0 := (hSq.cell (p := ⟨g1, o1 + k * 4, none⟩) hg1).trans p0; have s1 := (hSq.cell (p := ⟨g1, o1 + k * 4 + 1, none⟩) hg1).trans p1; have s2 := (hSq.cell (p := ⟨g1, o1 + k * 4 + 2, none⟩) hg1).trans p2; have s3 := (hSq.cell (p := ⟨g1, o1 + k * 4 + 3, none⟩) hg1).trans p3; have r0 := (hSq.cell (p := ⟨g2, o2 + k * 4, none⟩) hg2).trans q0; have r1 := (hSq.cell (p := ⟨g2, o2 + k * 4 + 1, none⟩) hg2).trans q1; have r2 := (hSq.cell (p := ⟨g2, o2 + k * 4 + 2, none⟩) hg2).trans q2; have r3 := (hSq.cell (p := ⟨g2, o2 + k * 4 + 3, none⟩) hg2).trans q3; go_simp <;> first | with_reducible rfl | rfl)
      simp only [Act.put, List.setIfInBounds_toArray, List.set_cons_zero, List.set_cons_succ]
      refine take_on (i := 42) (v := ?_) rfl rfl (by kernel_rfl) (by kernel_rfl) (by kernel_rfl) (fun _ _ _ h => h) rfl ?_ hHeld ?_
      rotate_left
      · (intro wq hSq; have s0 := (hSq.cell (p := ⟨g1, o1 + k * 4, none⟩) hg1).trans p0; have s1 := (hSq.cell (p := ⟨g1, o1 + k * 4 + 1, none⟩) hg1).trans p1; have s2 := (hSq.cell (p := ⟨g1, o1 + k * 4 + 2, none⟩) hg1).trans p2; have s3 := (hSq.cell (p := ⟨g1, o1 + k * 4 + 3, none⟩) hg1).trans p3; have r0 := (hSq.cell (p := ⟨g2, o2 + k * 4, none⟩) hg2).trans q0; have r1 := (hSq.cell (p := ⟨g2, o2 + k * 4 + 1, none⟩) hg2).trans q1; have r2 := (hSq.cell (p := ⟨g2, o2 + k * 4 + 2, none⟩) hg2).trans q2; have r3 := (hSq.cell (p := ⟨g2, o2 + k * 4 + 3, none⟩) hg2).trans q3; go_simp <;> first | with_reducible rfl | rfl)
      simp only [Act.put, List.setIfInBounds_toArray, List.set_cons_zero, List.set_cons_succ]
      refine take_on (i := 43) (v := ?_) rfl rfl (by kernel_rfl) (by kernel_rfl) (by kernel_rfl) (fun _ _ _ h => h) rfl ?_ hHeld ?_
      rotate_left
      · (intro wq hSq; have s0 := (hSq.cell (p := ⟨g1, o1 + k * 4, none⟩) hg1).trans p0; have s1 := (hSq.cell (p := ⟨g1, o1 + k * 4 + 1, none⟩) hg1).trans p1; have s2 := (hSq.cell (p := ⟨g1, o1 + k * 4 + 2, none⟩) hg1).trans p2; have s3 := (hSq.cell (p := ⟨g1, o1 + k * 4 + 3, none⟩) hg1).trans p3; have r0 := (hSq.cell (p := ⟨g2, o2 + k * 4, none⟩) hg2).trans q0; have r1 := (hSq.cell (p := ⟨g2, o2 + k * 4 + 1, none⟩) hg2).trans q1; have r2 := (hSq.cell (p := ⟨g2, o2 + k * 4 + 2, none⟩) hg2).trans q2; have r3 := (hSq.cell (p := ⟨g2, o2 + k * 4 + 3, none⟩) hg2).trans q3; go_simp <;> first | with_reducible rfl | rfl)
      simp only [Act.put, List.setIfInBounds_toArray, List.set_cons_zero, List.set_cons_succ]
      refine take_on (i := 44) (v := ?_) rfl rfl (by kernel_rfl) (by kernel_rfl) (by kernel_rfl) (fun _ _ _ h => h) rfl ?_ hHeld ?_
      rotate_left
      · (intro wq hSq; have s0 := (hSq.cell (p := ⟨g1, o1 + k * 4, none⟩) hg1).trans p0; have s1 := (hSq.cell (p := ⟨g1, o1 + k * 4 + 1, none⟩) hg1).trans p1; have s2 := (hSq.cell (p := ⟨g1, o1 + k * 4 + 2, none⟩) hg1).trans p2; have s3 := (hSq.cell (p := ⟨g1, o1 + k * 4 + 3, none⟩) hg1).trans p3; have r0 := (hSq.cell (p := ⟨g2, o2 + k * 4, none⟩) hg2).trans q0; have r1 := (hSq.cell (p := ⟨g2, o2 + k * 4 + 1, none⟩) hg2).trans q1; have r2 := (hSq.cell (p := ⟨g2, o2 + k * 4 + 2, none⟩) hg2).trans q2; have r3 := (hSq.cell (p := ⟨g2, o2 + k * 4 + 3, none⟩) hg2).trans q3; go_simp <;> first | with_reducible rfl | rfl)
      simp only [Act.put, List.setIfInBounds_toArray, List.set_cons_zero, List.set_cons_succ]
      refine take_on (i := 45) (v := ?_) rfl rfl (by kernel_rfl) (by kernel_rfl) (by kernel_rfl) (fun _ _ _ h => h) rfl ?_ hHeld ?_
      rotate_left
      · (intro wq hSq; have s0 := (hSq.cell (p := ⟨g1, o1 + k * 4, none⟩) hg1).trans p0; have s1 := (hSq.cell (p := ⟨g1, o1 + k * 4 + 1, none⟩) hg1).trans p1; have s2 := (hSq.cell (p := ⟨g1, o1 + k * 4 + 2, none⟩) hg1).trans p2; have s3 := (hSq.cell (p := ⟨g1, o1 + k * 4 + 3, none⟩) hg1).trans p3; have r0 := (hSq.cell (p := ⟨g2, o2 + k * 4, none⟩) hg2).trans q0; have r1 := (hSq.cell (p := ⟨g2, o2 + k * 4 + 1, none⟩) hg2).trans q1; have r2 := (hSq.cell (p := ⟨g2, o2 + k * 4 + 2, none⟩) hg2).trans q2; have r3 := (hSq.cell (p := ⟨g2, o2 + k * 4 + 3, none⟩) hg2).trans q3; go_simp <;> first | with_reducible rfl | rfl)
      simp only [Act.put, List.setIfInBounds_toArray, List.set_cons_zero, List.set_cons_succ]
      refine take_on (i := 46) (v := ?_) rfl rfl (by kernel_rfl) (by kernel_rfl) (by kernel_rfl) (fun _ _ _ h => h) rfl ?_ hHeld ?_
      rotate_left
      · (intro wq hSq; have s0 := (hSq.cell (p := ⟨g1, o1 + k * 4, none⟩) hg1).trans p0; have s1 := (hSq.cell (p := ⟨g1, o1 + k * 4 + 1, none⟩) hg1).trans p1; have s2 := (hSq.cell (p := ⟨g1, o1 + k * 4 + 2, none⟩) hg1).trans p2; have s3 := (hSq.cell (p := ⟨g1, o1 + k * 4 + 3, none⟩) hg1).trans p3; have r0 := (hSq.cell (p := ⟨g2, o2 + k * 4, none⟩) hg2).trans q0; have r1 := (hSq.cell (p := ⟨g2, o2 + k * 4 + 1, none⟩) hg2).trans q1; have r2 := (hSq.cell (p := ⟨g2, o2 + k * 4 + 2, none⟩) hg2).trans q2; have r3 := (hSq.cell (p := ⟨g2, o2 + k * 4 + 3, none⟩) hg2).trans q3; go_simp <;> first | with_reducible rfl | rfl)
      simp only [Act.put, List.setIfInBounds_toArray, List.set_cons_zero, List.set_cons_succ]
      refine take_on (i := 47) (v := ?_) rfl rfl (by kernel_rfl) (by kernel_rfl) (by kernel_rfl) (fun _ _ _ h => h) rfl ?_ hHeld ?_
      rotate_left
      · (intro wq hSq; have s0 := (hSq.cell (p := ⟨g1, o1 + k * 4, none⟩) hg1).trans p0; have s1 := (hSq.cell (p := ⟨g1, o1 + k * 4 + 1, none⟩) hg1).trans p1; have s2 := (hSq.cell (p := ⟨g1, o1 + k * 4 + 2, none⟩) hg1).trans p2; have s3 := (hSq.cell (p := ⟨g1, o1 + k * 4 + 3, none⟩) hg1).trans p3; have r0 := (hSq.cell (p := ⟨g2, o2 + k * 4, none⟩) hg2).trans q0; have r1 := (hSq.cell (p := ⟨g2, o2 + k * 4 + 1, none⟩) hg2).trans q1; have r2 := (hSq.cell (p := ⟨g2, o2 + k * 4 + 2, none⟩) hg2).trans q2; have r3 := (hSq.cell (p := ⟨g2, o2 + k * 4 + 3, none⟩) hg2).trans q3; go_simp <;> first | with_reducible rfl | rfl)
      simp only [Act.put, List.setIfInBounds_toArray, List.set_cons_zero, List.set_cons_succ]
      refine take_one (i := 48) rfl (by kernel_rfl) (fun K hK => ?_)
      go_simp
      (refine (hcl _ hHeld).mono ?_; rintro e z1 ⟨rfl, q, rfl⟩)
      try go_wp2_with fail
      refine hK.out _ _ ?_ (fun hHeld => ?_)
      · exact below_drewN (Below.refl _ _) _
      clear hK K
      try simp only [Act.put, List.setIfInBounds_toArray, List.set_cons_zero, List.set_cons_succ]
      refine take_on (i := 49) (v := ?_) rfl rfl (by kernel_rfl) (by kernel_rfl) (by kernel_rfl) (fun _ _ _ h => h) rfl ?_ hHeld ?_
      rotate_left
      · (intro wq hSq; have s0 := (hSq.cell (p := ⟨g1, o1 + k * 4, none⟩) hg1).trans p0; have s1 := (hSq.cell (p := ⟨g1, o1 + k * 4 + 1, none⟩) hg1).trans p1; have s2 := (hSq.cell (p := ⟨g1, o1 + k * 4 + 2, none⟩) hg1).trans p2; have s3 := (hSq.cell (p := ⟨g1, o1 + k * 4 + 3, none⟩) hg1).trans p3; have r0 := (hSq.cell (p := ⟨g2, o2 + k * 4, none⟩) hg2).trans q0; have r1 := (hSq.cell (p := ⟨g2, o2 + k * 4 + 1, none⟩) hg2).trans q1; have r2 := (hSq.cell (p := ⟨g2, o2 + k * 4 + 2, none⟩) hg2).trans q2; have r3 := (hSq.cell (p := ⟨g2, o2 + k * 4 + 3, none⟩) hg2).trans q3; go_simp <;> first | with_reducible rfl | rfl)
      simp only [Act.put, List.setIfInBounds_toArray, List.set_cons_zero, List.set_cons_succ]
      refine take_on (i := 50) (v := ?_) rfl rfl (by kernel_rfl) (by kernel_rfl) (by kernel_rfl) (fun _ _ _ h => h) rfl ?_ hHeld ?_
      rotate_left
      · (intro wq hSq; have s0 := (hSq.cell (p := ⟨g1, o1 + k * 4, none⟩) hg1).trans p0; have s1 := (hSq.cell (p := ⟨g1, o1 + k * 4 + 1, none⟩) hg1).trans p1; have s2 := (hSq.cell (p := ⟨g1, o1 + k * 4 + 2, none⟩) hg1).trans p2; have s3 := (hSq.cell (p := ⟨g1, o1 + k * 4 + 3, none⟩) hg1).trans p3; have r0 := (hSq.cell (p := ⟨g2, o2 + k * 4, none⟩) hg2).trans q0; have r1 := (hSq.cell (p := ⟨g2, o2 + k * 4 + 1, none⟩) hg2).trans q1; have r2 := (hSq.cell (p := ⟨g2, o2 + k * 4 + 2, none⟩) hg2).trans q2; have r3 := (hSq.cell (p := ⟨g2, o2 + k * 4 + 3, none⟩) hg2).trans q3; go_simp <;> first | with_reducible rfl | rfl)
      simp only [Act.put, List.setIfInBounds_toArray, List.set_cons_zero, List.set_cons_succ]
      refine wpAnyH_done (by kernel_rfl) ?_ _
      have HB := hide_it (HW.out.trans (hHeld.mono hwz))
      go_wp2
      go_roundw
      case rel => exact ⟨k + 1, by omega, by go_num, HB⟩
      case measure => simp [intOf]; omega
    · have hn1 : ¬ (k : Int) < (N : Int) := by omega
      go_wp2
      go_ret
      exact ⟨rfl, HW.out⟩

end Go.Proofs.Ythaknohnccmfoaa
