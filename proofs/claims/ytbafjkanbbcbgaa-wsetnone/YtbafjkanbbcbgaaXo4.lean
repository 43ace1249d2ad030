/- Lists of pairs that can be read; two that are the same. -/
import Derived.Test.YtbafjkanbbcbgaaXo3
import Derived.Laws.BytesString
import Derived.Laws.Cells
import Derived.Lib.SliceRun
import Derived.Lib.Strings
namespace Go.Proofs.Ytbafjkanbbcbgaa
open Go.RowKit Go.Maps Go.Shelf

/-- The text of bytes. -/
def strOf (p : List Nat) : ByteArray := (p.map fun n : Nat => (n : Int)).foldl (fun r n => r.push (UInt8.ofNat n.toNat)) ByteArray.empty

theorem conv_row {w : World} {a : Option Addr} {cap : Nat} {p : List Nat} (hr : RowB w a p) (hn : a = none → p.length = 0 ∧ cap = 0) :
    (convert 34 9 (.slice a p.length cap)).run Try.prog w = .ok (.string (strOf p)) w := by
  rw [run_convert_bytes_string w _ _ _ _ _ _ Try.underlying34 Try.underlying5 Try.underlying9]
  cases a with
  | none =>
    obtain ⟨h1, h2⟩ := hn rfl
    have e : p = [] := List.eq_nil_of_length_eq_zero h1
    subst e
    subst h2
    rfl
  | some ad =>
    unfold strOf
    refine run_bytesToString w ad p.length cap (p.map fun n : Nat => (n : Int)) ?_
    have h := run_loadCells_list (P := Try.prog) (w := w) ad (p.map encB) (fun j v hv => ?_)
    · have e : (p.map encB) = (p.map fun n : Nat => (n : Int)).map (Value.int .u8) := by simp [encB]
      rw [List.length_map, e] at h
      exact h
    · have hj : j < p.length := by have := (List.getElem?_eq_some_iff.1 hv).1; simpa using this
      obtain ⟨b, o, e, hlt, hc⟩ := hr.here hj
      cases e
      rw [Addr.add_lit, hc j hj]
      exact (mapB_at hj).symm.trans hv

theorem strOf_data (p : List Nat) : (strOf p).data.toList = p.map UInt8.ofNat := by
  have key : ∀ (p : List Nat) (s : ByteArray), ((p.map fun n : Nat => (n : Int)).foldl (fun r n => r.push (UInt8.ofNat n.toNat)) s).data.toList = s.data.toList ++ p.map UInt8.ofNat := by
    intro p
    induction p with
    | nil => intro s; simp
    | cons x t ih => intro s; simp only [List.map_cons, List.foldl_cons]; rw [ih]; simp [ByteArray.push]
  have := key p ByteArray.empty
  simpa [strOf] using this

theorem strOf_list (p : List Nat) : (strOf p).toList = p.map UInt8.ofNat := by rw [Lib.toList_data, strOf_data]

theorem strOf_size (p : List Nat) : (strOf p).size = p.length := by
  have h := congrArg List.length (strOf_data p)
  simp at h
  exact h

/-- A list of pairs that can be read. -/
structure RdP (w : World) (v : Value) (xs : List Pn) : Prop where
  ex : ∃ a c, v = .slice a xs.length c ∧ RowU w a xs
  val : ∀ x ∈ xs, RowB w x.a x.z ∧ (x.a = none → x.z.length = 0 ∧ x.c = 0)
theorem RdP.below {w w' : World} {v : Value} {xs : List Pn} (h : RdP w v xs) (hb : Below w.heap.size w w') : RdP w' v xs := by
  obtain ⟨a, c, e, hr⟩ := h.ex
  exact ⟨⟨a, c, e, hr.below hb⟩, fun x hx => ⟨(h.val x hx).1.below hb, (h.val x hx).2⟩⟩
theorem RdP.own {w : World} {B : Nat} {v : Value} {xs : List Pn} (h : OwP w B v xs) (hv : ∀ x ∈ xs, RowB w x.a x.z ∧ (x.a = none → x.z.length = 0 ∧ x.c = 0)) : RdP w v xs := by
  obtain ⟨a, c, rfl, _, _⟩ := OwnS.open h
  refine ⟨⟨a, c, rfl, ?_⟩, hv⟩
  rcases Nat.eq_zero_or_pos xs.length with h0 | h0
  · exact .inl h0
  · rcases h.2 with ⟨_, h1⟩ | ⟨g, o, cap, cur, e, _, hh, hn, _, hs, ht⟩
    · omega
    · cases e
      have hl := celP_len xs
      refine .inr ⟨g, o, rfl, (Array.getElem?_eq_some_iff.1 hh).1, fun i hi => ⟨?_, ?_⟩⟩
      · rw [cell_of_row _ _ _ _ _ _ hh, ht (i * 2) (by omega)]; exact celP_at hi 0 (by omega)
      · rw [cell_of_row _ _ _ _ _ _ hh, Nat.add_assoc, ht (i * 2 + 1) (by omega)]; exact celP_at hi 1 (by omega)
theorem RdP.here {w : World} {a : Option Addr} {c : Nat} {xs : List Pn} (h : RdP w (.slice a xs.length c) xs) {i : Nat} (hi : i < xs.length) : ∃ g o, a = some ⟨g, o, none⟩ ∧ g < w.heap.size ∧ w.cell? ⟨g, o + i * 2, none⟩ = some (.string (pn xs i).k) ∧ w.cell? ⟨g, o + i * 2 + 1, none⟩ = some (.slice (pn xs i).a (pn xs i).z.length (pn xs i).c) := by
  obtain ⟨a', c', e, hr⟩ := h.ex
  cases e
  rcases hr with h0 | ⟨g, o, e, hg, hce⟩
  · omega
  · exact ⟨g, o, e, hg, hce i hi⟩

set_option maxRecDepth 100000 in
set_option maxHeartbeats 4000000 in
theorem samePairs_same {w : World} {v1 v2 : Value} {xs ys : List Pn} (h1 : RdP w v1 xs) (h2 : RdP w v2 ys) (hs : saysP xs = saysP ys) (hl : xs.length ≤ 4611686018427387904) :
    Calls Try.prog 23 #[v1, v2] w fun e w' => e = .returned (.bool true) ∧ Below w.heap.size w w' := by
  obtain ⟨hle, hat⟩ := saysP_at hs
  obtain ⟨a1, c1, rfl, _⟩ := h1.ex
  obtain ⟨a2, c2, rfl, _⟩ := h2.ex
  rw [← hle] at h2 ⊢
  obtain ⟨N, hN⟩ : ∃ N, N = xs.length := ⟨_, rfl⟩
  rw [← hN] at hl
  have HN := hide_it hN
  have H1 : Hid (∀ z, Below w.heap.size w z → RdP z (.slice a1 N c1) xs) := by rw [hN]; exact hide_it fun z hz => h1.below hz
  have H2 : Hid (∀ z, Below w.heap.size w z → RdP z (.slice a2 ys.length c2) ys) := by rw [← hle]; exact hide_it fun z hz => h2.below hz
  have HLE := hide_it hle
  have HAT := hide_it hat
  rw [← hN]
  clear h1 h2 hs hle hat hN
  go_enter Try.func23, Try.ntmps23
  go_wp2_with fail
  go_loopw [5] (fun i wr => ∃ k : Nat, k ≤ N ∧ i = .int .i64 k ∧ Hid (Below w.heap.size w wr)) (fun i _ => N - (intOf i).toNat)
  case atStart => exact ⟨0, by omega, rfl, hide_it (Below.refl _ _)⟩
  case round =>
    obtain ⟨k, hk, rfl, HW⟩ := hrel
    by_cases hlt : k < N
    · have hi1 : (k : Int) < (N : Int) := by omega
      have r1 := H1.out wr HW.out
      rw [HN.out] at r1
      obtain ⟨g1, o1, rfl, hg1, p0, p1⟩ := r1.here (i := k) (by rw [← HN.out]; exact hlt)
      obtain ⟨g2, o2, rfl, hg2, q0, q1⟩ := (H2.out wr HW.out).here (i := k) (by rw [← HLE.out, ← HN.out]; exact hlt)
      have hb1 := (H1.out wr HW.out).val _ (pn_mem (i := k) (by rw [← HN.out]; exact hlt))
      have hb2 := (H2.out wr HW.out).val _ (pn_mem (i := k) (by rw [← HLE.out, ← HN.out]; exact hlt))
      obtain ⟨ek, ez⟩ := HAT.out k (by rw [← HN.out]; exact hlt)
      rw [← ek] at q0
      rw [← ez] at q1 hb2
      have hv1 := fun z (hz : Below wr.heap.size wr z) => conv_row (cap := (pn xs k).c) (hb1.1.below hz) hb1.2
      have hv2 := fun z (hz : Below wr.heap.size wr z) => conv_row (cap := (pn ys k).c) (hb2.1.below hz) hb2.2
      generalize (pn xs k).k = K at *
      generalize (pn xs k).z = Z at *
      generalize (pn xs k).a = A1 at *
      generalize (pn ys k).a = A2 at *
      generalize (pn xs k).c = C1 at *
      generalize (pn ys k).c = C2 at *
      have hwz := HW.out.size
      have hk1 : (K.toList == K.toList) = true := by simp
      clear hb1 hb2 ek ez H1 H2 HAT r1
      generalize strOf Z = SZ at *
      generalize Z.length = ZL at *
      have hk2 : (SZ.toList == SZ.toList) = true := by simp
      go_wp2_with fail
      refine wp_region_held_drew (S := (fun w' => Below wr.heap.size wr w')) (by kernel_rfl) ?_ (fun hHeld => ?_)
      · exact (Below.refl _ _).drew
      refine take_on (i := 0) (v := ?_) rfl rfl (by kernel_rfl) (by kernel_rfl) (by kernel_rfl) (fun _ _ _ h => h) rfl ?_ hHeld ?_
      rotate_left
      · (intro wq hSq; have s0 := (hSq.cell (p := ⟨g1, o1 + k * 2, none⟩) hg1).trans p0; have s1 := (hSq.cell (p := ⟨g1, o1 + k * 2 + 1, none⟩) hg1).trans p1; have s2 := (hSq.cell (p := ⟨g2, o2 + k * 2, none⟩) hg2).trans q0; have s3 := (hSq.cell (p := ⟨g2, o2 + k * 2 + 1, none⟩) hg2).trans q1; have s4 := hv1 _ hSq; have s5 := hv2 _ hSq; go_simp <;> first | with_reducible rfl | rfl)
      simp only [Act.put, List.setIfInBounds_toArray, List.set_cons_zero, List.set_cons_succ]
      refine take_on (i := 1) (v := ?_) rfl rfl (by kernel_rfl) (by kernel_rfl) (by kernel_rfl) (fun _ _ _ h => h) rfl ?_ hHeld ?_
      rotate_left
      · (intro wq hSq; have s0 := (hSq.cell (p := ⟨g1, o1 + k * 2, none⟩) hg1).trans p0; have s1 := (hSq.cell (p := ⟨g1, o1 + k * 2 + 1, none⟩) hg1).trans p1; have s2 := (hSq.cell (p := ⟨g2, o2 + k * 2, none⟩) hg2).trans q0; have s3 := (hSq.cell (p := ⟨g2, o2 + k * 2 + 1, none⟩) hg2).trans q1; have s4 := hv1 _ hSq; have s5 := hv2 _ hSq; go_simp <;> first | with_reducible rfl | rfl)
      simp only [Act.put, List.setIfInBounds_toArray, List.set_cons_zero, List.set_cons_succ]
      refine take_on (i := 2) (v := ?_) rfl rfl (by kernel_rfl) (by kernel_rfl) (by kernel_rfl) (fun _ _ _ h => h) rfl ?_ hHeld ?_
      rotate_left
      · (intro wq hSq; have s0 := (hSq.cell (p := ⟨g1, o1 + k * 2, none⟩) hg1).trans p0; have s1 := (hSq.cell (p := ⟨g1, o1 + k * 2 + 1, none⟩) hg1).trans p1; have s2 := (hSq.cell (p := ⟨g2, o2 + k * 2, none⟩) hg2).trans q0; have s3 := (hSq.cell (p := ⟨g2, o2 + k * 2 + 1, none⟩) hg2).trans q1; have s4 := hv1 _ hSq; have s5 := hv2 _ hSq; go_simp <;> first | with_reducible rfl | rfl)
      simp only [Act.put, List.setIfInBounds_toArray, List.set_cons_zero, List.set_cons_succ]
      refine take_on (i := 3) (v := ?_) rfl rfl (by kernel_rfl) (by kernel_rfl) (by kernel_rfl) (fun _ _ _ h => h) rfl ?_ hHeld ?_
      rotate_left
      · (intro wq hSq; have s0 := (hSq.cell (p := ⟨g1, o1 + k * 2, none⟩) hg1).trans p0; have s1 := (hSq.cell (p := ⟨g1, o1 + k * 2 + 1, none⟩) hg1).trans p1; have s2 := (hSq.cell (p := ⟨g2, o2 + k * 2, none⟩) hg2).trans q0; have s3 := (hSq.cell (p := ⟨g2, o2 + k * 2 + 1, none⟩) hg2).trans q1; have s4 := hv1 _ hSq; have s5 := hv2 _ hSq; go_simp <;> first | with_reducible rfl | rfl)
      simp only [Act.put, List.setIfInBounds_toArray, List.set_cons_zero, List.set_cons_succ]
      refine take_on (i := 4) (v := ?_) rfl rfl (by kernel_rfl) (by kernel_rfl) (by kernel_rfl) (fun _ _ _ h => h) rfl ?_ hHeld ?_
      rotate_left
      · (intro wq hSq; have s0 := (hSq.cell (p := ⟨g1, o1 + k * 2, none⟩) hg1).trans p0; have s1 := (hSq.cell (p := ⟨g1, o1 + k * 2 + 1, none⟩) hg1).trans p1; have s2 := (hSq.cell (p := ⟨g2, o2 + k * 2, none⟩) hg2).trans q0; have s3 := (hSq.cell (p := ⟨g2, o2 + k * 2 + 1, none⟩) hg2).trans q1; have s4 := hv1 _ hSq; have s5 := hv2 _ hSq; go_simp <;> first | with_reducible rfl | rfl)
      simp only [Act.put, List.setIfInBounds_toArray, List.set_cons_zero, List.set_cons_succ]
      refine take_on (i := 5) (v := ?_) rfl rfl (by kernel_rfl) (by kernel_rfl) (by kernel_rfl) (fun _ _ _ h => h) rfl ?_ hHeld ?_
      rotate_left
      · (intro wq hSq; have s0 := (hSq.cell (p := ⟨g1, o1 + k * 2, none⟩) hg1).trans p0; have s1 := (hSq.cell (p := ⟨g1, o1 + k * 2 + 1, none⟩) hg1).trans p1; have s2 := (hSq.cell (p := ⟨g2, o2 + k * 2, none⟩) hg2).trans q0; have s3 := (hSq.cell (p := ⟨g2, o2 + k * 2 + 1, none⟩) hg2).trans q1; have s4 := hv1 _ hSq; have s5 := hv2 _ hSq; go_simp <;> first | with_reducible rfl | rfl)
      simp only [Act.put, List.setIfInBounds_toArray, List.set_cons_zero, List.set_cons_succ]
      refine take_on (i := 6) (v := ?_) rfl rfl (by kernel_rfl) (by kernel_rfl) (by kernel_rfl) (fun _ _ _ h => h) rfl ?_ hHeld ?_
      rotate_left
      · (intro wq hSq; have s0 := (hSq.cell (p := ⟨g1, o1 + k * 2, none⟩) hg1).trans p0; have s1 := (hSq.cell (p := ⟨g1, o1 + k * 2 + 1, none⟩) hg1).trans p1; have s2 := (hSq.cell (p := ⟨g2, o2 + k * 2, none⟩) hg2).trans q0; have s3 := (hSq.cell (p := ⟨g2, o2 + k * 2 + 1, none⟩) hg2).trans q1; have s4 := hv1 _ hSq; have s5 := hv2 _ hSq; go_simp <;> first | with_reducible rfl | rfl)
      simp only [Act.put, List.setIfInBounds_toArray, List.set_cons_zero, List.set_cons_succ]
      refine take_on (i := 7) (v := ?_) rfl rfl (by kernel_rfl) (by kernel_rfl) (by kernel_rfl) (fun _ _ _ h => h) rfl ?_ hHeld ?_
      rotate_left
      · (intro wq hSq; have s0 := (hSq.cell (p := ⟨g1, o1 + k * 2, none⟩) hg1).trans p0; have s1 := (hSq.cell (p := ⟨g1, o1 + k * 2 + 1, none⟩) hg1).trans p1; have s2 := (hSq.cell (p := ⟨g2, o2 + k * 2, none⟩) hg2).trans q0; have s3 := (hSq.cell (p := ⟨g2, o2 + k * 2 + 1, none⟩) hg2).trans q1; have s4 := hv1 _ hSq; have s5 := hv2 _ hSq; go_simp <;> first | with_reducible rfl | rfl)
      simp only [Act.put, List.setIfInBounds_toArray, List.set_cons_zero, List.set_cons_succ]
      refine take_on (i := 8) (v := ?_) rfl rfl (by kernel_rfl) (by kernel_rfl) (by kernel_rfl) (fun _ _ _ h => h) rfl ?_ hHeld ?_
      rotate_left
      · (intro wq hSq; have s0 := (hSq.cell (p := ⟨g1, o1 + k * 2, none⟩) hg1).trans p0; have s1 := (hSq.cell (p := ⟨g1, o1 + k * 2 + 1, none⟩) hg1).trans p1; have s2 := (hSq.cell (p := ⟨g2, o2 + k * 2, none⟩) hg2).trans q0; have s3 := (hSq.cell (p := ⟨g2, o2 + k * 2 + 1, none⟩) hg2).trans q1; have s4 := hv1 _ hSq; have s5 := hv2 _ hSq; go_simp <;> first | with_reducible rfl | rfl)
      simp only [Act.put, List.setIfInBounds_toArray, List.set_cons_zero, List.set_cons_succ]
      refine take_on (i := 9) (v := ?_) rfl rfl (by kernel_rfl) (by kernel_rfl) (by kernel_rfl) (fun _ _ _ h => h) rfl ?_ hHeld ?_
      rotate_left
      · (intro wq hSq; have s0 := (hSq.cell (p := ⟨g1, o1 + k * 2, none⟩) hg1).trans p0; have s1 := (hSq.cell (p := ⟨g1, o1 + k * 2 + 1, none⟩) hg1).trans p1; have s2 := (hSq.cell (p := ⟨g2, o2 + k * 2, none⟩) hg2).trans q0; have s3 := (hSq.cell (p := ⟨g2, o2 + k * 2 + 1, none⟩) hg2).trans q1; have s4 := hv1 _ hSq; have s5 := hv2 _ hSq; go_simp <;> first | with_reducible rfl | rfl)
      simp only [Act.put, List.setIfInBounds_toArray, List.set_cons_zero, List.set_cons_succ]
      refine take_on (i := 10) (v := ?_) rfl rfl (by kernel_rfl) (by kernel_rfl) (by kernel_rfl) (fun _ _ _ h => h) rfl ?_ hHeld ?_
      rotate_left
      · (intro wq hSq; have s0 := (hSq.cell (p := ⟨g1, o1 + k * 2, none⟩) hg1).trans p0; have s1 := (hSq.cell (p := ⟨g1, o1 + k * 2 + 1, none⟩) hg1).trans p1; have s2 := (hSq.cell (p := ⟨g2, o2 + k * 2, none⟩) hg2).trans q0; have s3 := (hSq.cell (p := ⟨g2, o2 + k * 2 + 1, none⟩) hg2).trans q1; have s4 := hv1 _ hSq; have s5 := hv2 _ hSq; go_simp <;> first | with_reducible rfl | rfl)
      simp only [Act.put, List.setIfInBounds_toArray, List.set_cons_zero, List.set_cons_succ]
      refine take_on (i := 11) (v := ?_) rfl rfl (by kernel_rfl) (by kernel_rfl) (by kernel_rfl) (fun _ _ _ h => h) rfl ?_ hHeld ?_
      rotate_left
      · (intro wq hSq; have s0 := (hSq.cell (p := ⟨g1, o1 + k * 2, none⟩) hg1).trans p0; have s1 := (hSq.cell (p := ⟨g1, o1 + k * 2 + 1, none⟩) hg1).trans p1; have s2 := (hSq.cell (p := ⟨g2, o2 + k * 2, none⟩) hg2).trans q0; have s3 := (hSq.cell (p := ⟨g2, o2 + k * 2 + 1, none⟩) hg2).trans q1; have s4 := hv1 _ hSq; have s5 := hv2 _ hSq; go_simp <;> first | with_reducible rfl | rfl)
      simp only [Act.put, List.setIfInBounds_toArray, List.set_cons_zero, List.set_cons_succ]
      refine take_on (i := 12) (v := ?_) rfl rfl (by kernel_rfl) (by kernel_rfl) (by kernel_rfl) (fun _ _ _ h => h) rfl ?_ hHeld ?_
      rotate_left
      · (intro wq hSq; have s0 := (hSq.cell (p := ⟨g1, o1 + k * 2, none⟩) hg1).trans p0; have s1 := (hSq.cell (p := ⟨g1, o1 + k * 2 + 1, none⟩) hg1).trans p1; have s2 := (hSq.cell (p := ⟨g2, o2 + k * 2, none⟩) hg2).trans q0; have s3 := (hSq.cell (p := ⟨g2, o2 + k * 2 + 1, none⟩) hg2).trans q1; have s4 := hv1 _ hSq; have s5 := hv2 _ hSq; go_simp <;> first | with_reducible rfl | rfl)
      simp only [Act.put, List.setIfInBounds_toArray, List.set_cons_zero, List.set_cons_succ]
      refine take_on (i := 13) (v := ?_) rfl rfl (by kernel_rfl) (by kernel_rfl) (by kernel_rfl) (fun _ _ _ h => h) rfl ?_ hHeld ?_
      rotate_left
      · (intro wq hSq; have s0 := (hSq.cell (p := ⟨g1, o1 + k * 2, none⟩) hg1).trans p0; have s1 := (hSq.cell (p := ⟨g1, o1 + k * 2 + 1, none⟩) hg1).trans p1; have s2 := (hSq.cell (p := ⟨g2, o2 + k * 2, none⟩) hg2).trans q0; have s3 := (hSq.cell (p := ⟨g2, o2 + k * 2 + 1, none⟩) hg2).trans q1; have s4 := hv1 _ hSq; have s5 := hv2 _ hSq; go_simp <;> first | with_reducible rfl | rfl)
      simp only [Act.put, List.setIfInBounds_toArray, List.set_cons_zero, List.set_cons_succ]
      refine take_on (i := 14) (v := ?_) rfl rfl (by kernel_rfl) (by kernel_rfl) (by kernel_rfl) (fun _ _ _ h => h) rfl ?_ hHeld ?_
      rotate_left
      · (intro wq hSq; have s0 := (hSq.cell (p := ⟨g1, o1 + k * 2, none⟩) hg1).trans p0; have s1 := (hSq.cell (p := ⟨g1, o1 + k * 2 + 1, none⟩) hg1).trans p1; have s2 := (hSq.cell (p := ⟨g2, o2 + k * 2, none⟩) hg2).trans q0; have s3 := (hSq.cell (p := ⟨g2, o2 + k * 2 + 1, none⟩) hg2).trans q1; have s4 := hv1 _ hSq; have s5 := hv2 _ hSq; go_simp <;> first | with_reducible rfl | rfl)
      simp only [Act.put, List.setIfInBounds_toArray, List.set_cons_zero, List.set_cons_succ]
      refine take_on (i := 15) (v := ?_) rfl rfl (by kernel_rfl) (by kernel_rfl) (by kernel_rfl) (fun _ _ _ h => h) rfl ?_ hHeld ?_
      rotate_left
      · (intro wq hSq; have s0 := (hSq.cell (p := ⟨g1, o1 + k * 2, none⟩) hg1).trans p0; have s1 := (hSq.cell (p := ⟨g1, o1 + k * 2 + 1, none⟩) hg1).trans p1; have s2 := (hSq.cell (p := ⟨g2, o2 + k * 2, none⟩) hg2).trans q0; have s3 := (hSq.cell (p := ⟨g2, o2 + k * 2 + 1, none⟩) hg2).trans q1; have s4 := hv1 _ hSq; have s5 := hv2 _ hSq; go_simp <;> first | with_reducible rfl | rfl)
      simp only [Act.put, List.setIfInBounds_toArray, List.set_cons_zero, List.set_cons_succ]
      refine take_on (i := 16) (v := ?_) rfl rfl (by kernel_rfl) (by kernel_rfl) (by kernel_rfl) (fun _ _ _ h => h) rfl ?_ hHeld ?_
      rotate_left
      · (intro wq hSq; have s0 := (hSq.cell (p := ⟨g1, o1 + k * 2, none⟩) hg1).trans p0; have s1 := (hSq.cell (p := ⟨g1, o1 + k * 2 + 1, none⟩) hg1).trans p1; have s2 := (hSq.cell (p := ⟨g2, o2 + k * 2, none⟩) hg2).trans q0; have s3 := (hSq.cell (p := ⟨g2, o2 + k * 2 + 1, none⟩) hg2).trans q1; have s4 := hv1 _ hSq; have s5 := hv2 _ hSq; go_simp <;> first | with_reducible rfl | rfl)
      simp only [Act.put, List.setIfInBounds_toArray, List.set_cons_zero, List.set_cons_succ]
      refine take_on (i := 17) (v := ?_) rfl rfl (by kernel_rfl) (by kernel_rfl) (by kernel_rfl) (fun _ _ _ h => h) rfl ?_ hHeld ?_
      rotate_left
      · (intro wq hSq; have s0 := (hSq.cell (p := ⟨g1, o1 + k * 2, none⟩) hg1).trans p0; have s1 := (hSq.cell (p := ⟨g1, o1 + k * 2 + 1, none⟩) hg1).trans p1; have s2 := (hSq.cell (p := ⟨g2, o2 + k * 2, none⟩) hg2).trans q0; have s3 := (hSq.cell (p := ⟨g2, o2 + k * 2 + 1, none⟩) hg2).trans q1; have s4 := hv1 _ hSq; have s5 := hv2 _ hSq; go_simp <;> first | with_reducible rfl | rfl)
      simp only [Act.put, List.setIfInBounds_toArray, List.set_cons_zero, List.set_cons_succ]
      refine take_on (i := 18) (v := ?_) rfl rfl (by kernel_rfl) (by kernel_rfl) (by kernel_rfl) (fun _ _ _ h => h) rfl ?_ hHeld ?_
      rotate_left
      · (intro wq hSq; have s0 := (hSq.cell (p := ⟨g1, o1 + k * 2, none⟩) hg1).trans p0; have s1 := (hSq.cell (p := ⟨g1, o1 + k * 2 + 1, none⟩) hg1).trans p1; have s2 := (hSq.cell (p := ⟨g2, o2 + k * 2, none⟩) hg2).trans q0; have s3 := (hSq.cell (p := ⟨g2, o2 + k * 2 + 1, none⟩) hg2).trans q1; have s4 := hv1 _ hSq; have s5 := hv2 _ hSq; go_simp <;> first | with_reducible rfl | rfl)
      simp only [Act.put, List.setIfInBounds_toArray, List.set_cons_zero, List.set_cons_succ]
      refine take_on (i := 19) (v := ?_) rfl rfl (by kernel_rfl) (by kernel_rfl) (by kernel_rfl) (fun _ _ _ h => h) rfl ?_ hHeld ?_
      rotate_left
      · (intro wq hSq; have s0 := (hSq.cell (p := ⟨g1, o1 + k * 2, none⟩) hg1).trans p0; have s1 := (hSq.cell (p := ⟨g1, o1 + k * 2 + 1, none⟩) hg1).trans p1; have s2 := (hSq.cell (p := ⟨g2, o2 + k * 2, none⟩) hg2).trans q0; have s3 := (hSq.cell (p := ⟨g2, o2 + k * 2 + 1, none⟩) hg2).trans q1; have s4 := hv1 _ hSq; have s5 := hv2 _ hSq; go_simp <;> first | with_reducible rfl | rfl)
      simp only [Act.put, List.setIfInBounds_toArray, List.set_cons_zero, List.set_cons_succ]
      refine take_on (i := 20) (v := ?_) rfl rfl (by kernel_rfl) (by kernel_rfl) (by kernel_rfl) (fun _ _ _ h => h) rfl ?_ hHeld ?_
      rotate_left
      · (intro wq hSq; have s0 := (hSq.cell (p := ⟨g1, o1 + k * 2, none⟩) hg1).trans p0; have s1 := (hSq.cell (p := ⟨g1, o1 + k * 2 + 1, none⟩) hg1).trans p1; have s2 := (hSq.cell (p := ⟨g2, o2 + k * 2, none⟩) hg2).trans q0; have s3 := (hSq.cell (p := ⟨g2, o2 + k * 2 + 1, none⟩) hg2).trans q1; have s4 := hv1 _ hSq; have s5 := hv2 _ hSq; go_simp <;> first | with_reducible rfl | rfl)
      simp only [Act.put, List.setIfInBounds_toArray, List.set_cons_zero, List.set_cons_succ]
      refine take_on (i := 21) (v := ?_) rfl rfl (by kernel_rfl) (by kernel_rfl) (by kernel_rfl) (fun _ _ _ h => h) rfl ?_ hHeld ?_
      rotate_left
      · (intro wq hSq; have s0 := (hSq.cell (p := ⟨g1, o1 + k * 2, none⟩) hg1).trans p0; have s1 := (hSq.cell (p := ⟨g1, o1 + k * 2 + 1, none⟩) hg1).trans p1; have s2 := (hSq.cell (p := ⟨g2, o2 + k * 2, none⟩) hg2).trans q0; have s3 := (hSq.cell (p := ⟨g2, o2 + k * 2 + 1, none⟩) hg2).trans q1; have s4 := hv1 _ hSq; have s5 := hv2 _ hSq; go_simp <;> first | with_reducible rfl | rfl)
      simp only [Act.put, List.setIfInBounds_toArray, List.set_cons_zero, List.set_cons_succ]
      refine take_on (i := 22) (v := ?_) rfl rfl (by kernel_rfl) (by kernel_rfl) (by kernel_rfl) (fun _ _ _ h => h) rfl ?_ hHeld ?_
      rotate_left
      · (intro wq hSq; have s0 := (hSq.cell (p := ⟨g1, o1 + k * 2, none⟩) hg1).trans p0; have s1 := (hSq.cell (p := ⟨g1, o1 + k * 2 + 1, none⟩) hg1).trans p1; have s2 := (hSq.cell (p := ⟨g2, o2 + k * 2, none⟩) hg2).trans q0; have s3 := (hSq.cell (p := ⟨g2, o2 + k * 2 + 1, none⟩) hg2).trans q1; have s4 := hv1 _ hSq; have s5 := hv2 _ hSq; go_simp <;> first | with_reducible rfl | rfl)
      simp only [Act.put, List.setIfInBounds_toArray, List.set_cons_zero, List.set_cons_succ]
      refine take_on (i := 23) (v := ?_) rfl rfl (by kernel_rfl) (by kernel_rfl) (by kernel_rfl) (fun _ _ _ h => h) rfl ?_ hHeld ?_
      rotate_left
      · (intro wq hSq; have s0 := (hSq.cell (p := ⟨g1, o1 + k * 2, none⟩) hg1).trans p0; have s1 := (hSq.cell (p := ⟨g1, o1 + k * 2 + 1, none⟩) hg1).trans p1; have s2 := (hSq.cell (p := ⟨g2, o2 + k * 2, none⟩) hg2).trans q0; have s3 := (hSq.cell (p := ⟨g2, o2 + k * 2 + 1, none⟩) hg2).trans q1; have s4 := hv1 _ hSq; have s5 := hv2 _ hSq; go_simp <;> first | with_reducible rfl | rfl)
      simp only [Act.put, List.setIfInBounds_toArray, List.set_cons_zero, List.set_cons_succ]
      refine take_on (i := 24) (v := ?_) rfl rfl (by kernel_rfl) (by kernel_rfl) (by kernel_rfl) (fun _ _ _ h => h) rfl ?_ hHeld ?_
      rotate_left
      · (intro wq hSq; have s0 := (hSq.cell (p := ⟨g1, o1 + k * 2, none⟩) hg1).trans p0; have s1 := (hSq.cell (p := ⟨g1, o1 + k * 2 + 1, none⟩) hg1).trans p1; have s2 := (hSq.cell (p := ⟨g2, o2 + k * 2, none⟩) hg2).trans q0; have s3 := (hSq.cell (p := ⟨g2, o2 + k * 2 + 1, none⟩) hg2).trans q1; have s4 := hv1 _ hSq; have s5 := hv2 _ hSq; go_simp <;> first | with_reducible rfl | rfl)
      simp only [Act.put, List.setIfInBounds_toArray, List.set_cons_zero, List.set_cons_succ]
      refine take_on (i := 25) (v := ?_) rfl rfl (by kernel_rfl) (by kernel_rfl) (by kernel_rfl) (fun _ _ _ h => h) rfl ?_ hHeld ?_
      rotate_left
      · (intro wq hSq; have s0 := (hSq.cell (p := ⟨g1, o1 + k * 2, none⟩) hg1).trans p0; have s1 := (hSq.cell (p := ⟨g1, o1 + k * 2 + 1, none⟩) hg1).trans p1; have s2 := (hSq.cell (p := ⟨g2, o2 + k * 2, none⟩) hg2).trans q0; have s3 := (hSq.cell (p := ⟨g2, o2 + k * 2 + 1, none⟩) hg2).trans q1; have s4 := hv1 _ hSq; have s5 := hv2 _ hSq; go_simp <;> first | with_reducible rfl | rfl)
      simp only [Act.put, List.setIfInBounds_toArray, List.set_cons_zero, List.set_cons_succ]
      refine wpAnyH_done (by kernel_rfl) ?_ _
      have HB := hide_it (HW.out.trans (hHeld.mono hwz))
      go_wp2
      go_roundw
      case rel => exact ⟨k + 1, by omega, by go_num, HB⟩
      case measure => simp [intOf]; omega
    · have hn1 : ¬ (k : Int) < (N : Int) := by omega
      go_wp2
      go_ret
      exact ⟨rfl, HW.out⟩

end Go.Proofs.Ytbafjkanbbcbgaa
