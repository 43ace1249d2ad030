/- The clocks that a law makes, of the program and of the document. -/
import Derived.Test.YthlkegemkkepgaaCk6
import Derived.Test.YthlkegemkkepgaaOpenSta
namespace Go.Proofs.Ythlkegemkkepgaa
open Go.RowKit

/-- The three cells of the document's clock. -/
def triK (c : Ck) : List Value := [.bool c.t, .int .i64 c.n, .int .i64 c.k]
/-- The cells of the document's clocks, and the program's pointers. -/
def celK (C : Nat → Ck) : Nat → List Value
  | 0 => []
  | n + 1 => celK C n ++ triK (C n)
def celP (C : Nat → Ck) (P : Nat → Nat) (n : Nat) : List Value := (List.range n).map fun i => ptrK (C i) (P i)
theorem celK_len (C : Nat → Ck) (n : Nat) : (celK C n).length = n * 3 := by
  induction n with
  | zero => rfl
  | succ n ih => simp [celK, ih, triK]; omega
theorem celK_at (C : Nat → Ck) {n i : Nat} (h : i < n) (j : Nat) (hj : j < 3) : (celK C n)[i * 3 + j]? = (triK (C i))[j]? := by
  induction n with
  | zero => omega
  | succ n ih =>
    by_cases e : i = n
    · subst e
      rw [celK, List.getElem?_append_right (by rw [celK_len]; omega), celK_len]; congr 1; omega
    · rw [celK, List.getElem?_append_left (by rw [celK_len]; omega)]; exact ih (by omega)
theorem celP_succ (C : Nat → Ck) (P : Nat → Nat) (n : Nat) : celP C P (n + 1) = celP C P n ++ [ptrK (C n) (P n)] := by simp [celP, List.range_succ]
theorem celP_at (C : Nat → Ck) (P : Nat → Nat) {n i : Nat} (h : i < n) : (celP C P n)[i]? = some (ptrK (C i) (P i)) := by
  unfold celP; rw [List.getElem?_map, List.getElem?_range h]; rfl
theorem celP_congr {C : Nat → Ck} {P P' : Nat → Nat} {n : Nat} (h : ∀ i, i < n → P i = P' i) : celP C P n = celP C P' n := by
  unfold celP; exact List.map_congr_left fun i hi => by rw [h i (by simpa using hi)]
theorem celK_congr {C C' : Nat → Ck} {n : Nat} (h : ∀ i, i < n → C i = C' i) : celK C n = celK C' n := by
  induction n with
  | zero => rfl
  | succ n ih => rw [celK, celK, ih (fun i hi => h i (by omega)), h n (by omega)]

/-- Both lists of n clocks, in memory made since base. -/
structure Cls (w : World) (base : Nat) (v1 v2 : Value) (n : Nat) (C : Nat → Ck) (P : Nat → Nat) : Prop where
  ptr : OwnS w base 24 1 v1 n (celP C P n)
  doc : OwnS w base 27 3 v2 n (celK C n)
  pk : ∀ i, i < n → Pk w (P i) (C i)
  ok : ∀ i, i < n → CkOk (C i)
  low : ∀ i, i < n → base ≤ P i ∧ P i < w.heap.size
  apart : ∀ i j, i < n → j < n → i ≠ j → P i ≠ P j
section
variable {w w' : World} {base : Nat} {v1 v2 : Value} {n : Nat} {C : Nat → Ck} {P : Nat → Nat}
theorem Cls.keep (h : Cls w base v1 v2 n C P) (hs : w.heap.size ≤ w'.heap.size) (hk : ∀ j, base ≤ j → j < w.heap.size → w'.heap[j]? = w.heap[j]?) : Cls w' base v1 v2 n C P :=
  ⟨h.ptr.keep fun j hj => hk j (h.ptr.inside j hj).1 (h.ptr.inside j hj).2, h.doc.keep fun j hj => hk j (h.doc.inside j hj).1 (h.doc.inside j hj).2, fun i hi => (h.pk i hi).keep (hk _ (h.low i hi).1 (h.low i hi).2), h.ok, fun i hi => ⟨(h.low i hi).1, Nat.lt_of_lt_of_le (h.low i hi).2 hs⟩, h.apart⟩
theorem Cls.below (h : Cls w base v1 v2 n C P) (hb : Below w.heap.size w w') : Cls w' base v1 v2 n C P := h.keep hb.size fun j _ hj => hb.block j hj
theorem Cls.rowP (h : Cls w base v1 v2 n C P) : ∃ a c, v1 = .slice a n c ∧ RowPt w a n C P ∧ n ≤ c ∧ (∀ p o, a = some ⟨p, o, none⟩ → base ≤ p) := by
  obtain ⟨a, c, hv, hn, _, h0, hc⟩ := h.ptr.open
  refine ⟨a, c, hv, ?_, hn, fun p o e => (hc _ e).2.2.1⟩
  cases a with
  | none => exact .inl (h0 rfl).1
  | some b =>
    obtain ⟨h1, h2, _, h4⟩ := hc b rfl
    refine .inr ⟨b.block, b.off, by cases b; simp_all, h2, fun i hi => ?_⟩
    rw [h4 i (by simp [celP]; exact hi)]
    exact celP_at C P hi
theorem Cls.rowK (h : Cls w base v1 v2 n C P) : ∃ a c, v2 = .slice a n c ∧ RowCk w a n C ∧ n ≤ c := by
  obtain ⟨a, c, hv, hn, _, h0, hc⟩ := h.doc.open
  refine ⟨a, c, hv, ?_, hn⟩
  cases a with
  | none => exact .inl (h0 rfl).1
  | some b =>
    obtain ⟨h1, h2, _, h4⟩ := hc b rfl
    refine .inr ⟨b.block, b.off, by cases b; simp_all, h2, fun i hi => ?_⟩
    have hl := celK_len C n
    refine ⟨?_, ?_, ?_⟩
    · rw [h4 (i * 3) (by omega)]; exact celK_at C hi 0 (by omega)
    · rw [show b.off + i * 3 + 1 = b.off + (i * 3 + 1) by omega, h4 (i * 3 + 1) (by omega)]; exact celK_at C hi 1 (by omega)
    · rw [show b.off + i * 3 + 2 = b.off + (i * 3 + 2) by omega, h4 (i * 3 + 2) (by omega)]; exact celK_at C hi 2 (by omega)
end

theorem infoP : (Try.prog.info? 24).map (fun i => (i.zero, i.size, i.bytes)) = some (some (.pointer none), 1, 8) := by kernel_rfl
theorem infoK : (Try.prog.info? 27).map (fun i => (i.zero, i.size, i.bytes)) = some (some (.agg #[.bool false, .int .i64 0, .int .i64 0]), 3, 24) := by kernel_rfl
theorem ptrK_one (c : Ck) (p : Nat) : (ptrK c p).oneCell' = true := by unfold ptrK; split <;> rfl
theorem srcP (w : World) (v : Value) (hv : v.oneCell' = true) : Src Try.prog 1 46 (.slice (some ⟨w.heap.size, 0, none⟩) 1 1) 1 [v] (w.alloc (.cells #[v] 24)) := by
  refine Src.ofSlice _ Try.underlying46 ⟨w.heap.size, 0, none⟩ 1 1 _ rfl (fun j u hu => ?_) (fun u hu => ?_)
  · rw [Addr.add_lit, cell_of_row _ _ _ _ _ _ (heap_alloc_new w _), Nat.zero_add]
    have : (#[v] : Array Value)[j]? = [v][j]? := by simp
    rw [this]; exact hu
  · simp at hu
    subst hu; exact hv
theorem srcK (w : World) (c : Ck) : Src Try.prog 3 47 (.slice (some ⟨w.heap.size, 0, none⟩) 1 1) 1 (triK c) (w.alloc (.cells #[.bool c.t, .int .i64 c.n, .int .i64 c.k] 27)) := by
  refine Src.ofSlice _ Try.underlying47 ⟨w.heap.size, 0, none⟩ 1 1 _ rfl (fun j u hu => ?_) (fun u hu => ?_)
  · rw [Addr.add_lit, cell_of_row _ _ _ _ _ _ (heap_alloc_new w _), Nat.zero_add]
    have : (#[.bool c.t, .int .i64 c.n, .int .i64 c.k] : Array Value)[j]? = (triK c)[j]? := by simp [triK]
    rw [this]; exact hu
  · simp [triK] at hu
    rcases hu with rfl | rfl | rfl <;> rfl
theorem own_emptyS (w : World) (t : TypeId) (sz : Nat) : OwnS (w.alloc (.cells #[] t)) w.heap.size t sz (.slice (some ⟨w.heap.size, 0, none⟩) 0 0) 0 [] :=
  ⟨by simp, .inr ⟨_, 0, _, _, rfl, Nat.le_refl _, heap_alloc_new w _, Nat.le_refl _, by unfold maxLen; omega, by simp, fun i hi => by cases hi⟩⟩

theorem stopHere {p : Prop} (h : Hid p) : p := h
/-- The clocks of a list of starts. -/
def mkC (A : Nat → Sta) (i : Nat) : Ck := newC (A i).a (A i).b

set_option maxRecDepth 100000 in
set_option maxHeartbeats 2000000 in
theorem clocks_any (a : Option Addr) (n c : Nat) (A : Nat → Sta) (w : World) (hs : CameSta w a n A) :
    Calls Try.prog 18 #[.slice a n c] w fun e w' => (∃ v1 v2 P, e = .returned (.tuple #[v1, v2]) ∧ Cls w' w.heap.size v1 v2 n (mkC A) P) ∧ Below w.heap.size w w' := by
  have hn := hs.size
  have hrow := hs.row
  clear hs
  have hb0 : Below w.heap.size w ((w.alloc (.cells #[] 24)).alloc (.cells #[] 27)) := ((Below.refl _ _).alloc (Nat.le_refl _) _).alloc (by simp) _
  have hc0 : Cls ((w.alloc (.cells #[] 24)).alloc (.cells #[] 27)) w.heap.size (.slice (some ⟨w.heap.size, 0, none⟩) 0 0) (.slice (some ⟨w.heap.size + 1, 0, none⟩) 0 0) 0 (mkC A) (fun _ => 0) := by
    have h2 := own_emptyS (w.alloc (.cells #[] 24)) 27 3
    rw [show (w.alloc (.cells #[] 24)).heap.size = w.heap.size + 1 by simp] at h2
    exact ⟨(own_emptyS w _ 1).alloc _, h2.mono (by omega), fun i hi => by omega, fun i hi => by omega, fun i hi => by omega, fun i j hi => by omega⟩
  go_enter Try.func18, Try.ntmps18
  go_wp2_with fail
  go_loopw [4, 5, 16] (fun v1 v2 i wr => ∃ (k : Nat) (P : Nat → Nat), k ≤ n ∧ i = .int .i64 k ∧ Cls wr w.heap.size v1 v2 k (mkC A) P ∧ Below w.heap.size w wr) (fun _ _ i _ => n - (intOf i).toNat)
  case atStart => exact ⟨0, fun _ => 0, by omega, rfl, hc0, hb0⟩
  case round =>
    clear hc0 hb0
    obtain ⟨k, P, hk, rfl, hcl, hbl⟩ := hrel
    by_cases hlt : k < n
    · have hki : (k : Int) < (n : Int) := by omega
      obtain ⟨b2, o2, rfl, l2, c0, c1⟩ := hrow.here hlt
      have d0 := (hbl.cell (p := ⟨b2, o2 + k * 2, none⟩) l2).trans c0
      have d1 := (hbl.cell (p := ⟨b2, o2 + k * 2 + 1, none⟩) l2).trans c1
      have hw1 : IntKind.i64.wrap ((k : Int) + 1) = (k : Int) + 1 := i64_in (by omega) (by omega)
      have HM : Hid (mkC A k = newC (A k).a (A k).b) := rfl
      obtain ⟨x, hx⟩ : ∃ x, x = (A k).a := ⟨_, rfl⟩
      obtain ⟨y, hy⟩ : ∃ y, y = (A k).b := ⟨_, rfl⟩
      rw [← hx] at d0 HM
      rw [← hy] at d1 HM
      have hz := hbl.size
      clear hx hy c0 c1
      obtain ⟨W1, hW1⟩ : ∃ W1, W1 = wr.alloc (.cells #[.int .i64 x, .int .i64 y] 61) := ⟨_, rfl⟩
      have hb1 : Below wr.heap.size wr W1 := by rw [hW1]; exact (Below.refl _ _).alloc (Nat.le_refl _) _
      have hs1 : W1.heap.size = wr.heap.size + 1 := by rw [hW1]; simp
      have f0 : W1.cell? ⟨wr.heap.size, 0, none⟩ = some (.int .i64 x) := by rw [hW1, cell_of_row _ _ _ _ _ _ (heap_alloc_new wr _)]; rfl
      have f1 : W1.cell? ⟨wr.heap.size, 1, none⟩ = some (.int .i64 y) := by rw [hW1, cell_of_row _ _ _ _ _ _ (heap_alloc_new wr _)]; rfl
      have HCL := hide_it hcl
      have HBL := hide_it hbl
      clear hcl hbl
      have hnew := new_any x y W1
      have hok2 := newC_ok x y
      have HE := hide_it (rnew_any x y)
      obtain ⟨cc, hcc⟩ : ∃ cc, cc = newC x y := ⟨_, rfl⟩
      obtain ⟨ee, hee⟩ : ∃ ee, ee = newE x y := ⟨_, rfl⟩
      rw [← hcc] at hnew HM hok2 HE
      rw [← hee] at hnew HE
      clear hcc hee
      rw [hs1] at hnew
      obtain ⟨pp, hV⟩ : ∃ pp, Value.pointer pp = ptrK cc (wr.heap.size + 1) := ⟨_, rfl⟩
      rw [← hV] at hnew
      have HV := hide_it hV
      clear hV
      go_wp2_with fail
      rw [← hW1]
      clear hW1
      refine hnew.mono ?_
      rintro e w2 ⟨rfl, hp2, hb2⟩
      clear hnew
      rw [← hs1] at hb2
      have hz2 := hb2.size
      have g0 := (hb2.cell (p := ⟨wr.heap.size, 0, none⟩) (by show wr.heap.size < W1.heap.size; omega)).trans f0
      have g1 := (hb2.cell (p := ⟨wr.heap.size, 1, none⟩) (by show wr.heap.size < W1.heap.size; omega)).trans f1
      have hbt2 := hb1.trans (hb2.mono (by omega))
      clear f0 f1 hb1 hb2
      have hrn := HE.out w2
      unfold valK at hrn
      go_wp2_with fail
      refine hrn.mono ?_
      rintro e w3 ⟨rfl, hb3⟩
      clear hrn HE g0 g1
      have hz3 := hb3.size
      have hbt3 := hbt2.trans (hb3.mono (by omega))
      have hp3 := hp2.below hb3
      clear hp2 hb3 hbt2
      have HP3 := hide_it hp3
      have HB3 := hide_it hbt3
      clear hp3 hbt3
      obtain ⟨W4, hW4⟩ : ∃ W4, W4 = w3.alloc (.cells #[.bool cc.t, .int .i64 cc.n, .int .i64 cc.k] 27) := ⟨_, rfl⟩
      have hb4 : Below w3.heap.size w3 W4 := by rw [hW4]; exact (Below.refl _ _).alloc (Nat.le_refl _) _
      have hs4 : W4.heap.size = w3.heap.size + 1 := by rw [hW4]; simp
      have k4 : W4.heap[w3.heap.size]? = some (.cells #[.bool cc.t, .int .i64 cc.n, .int .i64 cc.k] 27 (0, 0)) := by rw [hW4]; exact heap_alloc_new w3 _
      have ho4 := (HCL.out.ptr).below (HB3.out.trans (hb4.mono (by omega)))
      have hb5 : Below W4.heap.size W4 (W4.alloc (.cells #[.pointer pp] 24)) := (Below.refl _ _).alloc (Nat.le_refl _) _
      have HW4 := hide_it hW4
      clear hW4
      go_wp2_with (at_builtin; refine stopHere ?_)
      rw [← HW4.out]
      unfold Hid
      rw [← hs4]
      refine wpList_append_S rfl _ _ 46 46 rfl (.pointer none) Try.underlying46 infoP rfl rfl (ho4.below hb5) _ rfl 1 _ (srcP W4 (.pointer pp) rfl) (by unfold maxLen; omega) (by omega) (by have := hb5.size; omega) ?_
      intro v5 w5 ho5 hg5 hat5
      have hz5 := hg5.size
      have hsz5 : W4.heap.size < w5.heap.size := by simp at hz5; omega
      have HK5 : Hid (∀ j, j < W4.heap.size → some j ≠ u4.ownBlock → w5.heap[j]? = W4.heap[j]?) := fun j hj hne => (hg5.block j (by simp; omega) hne).trans (hb5.block j hj)
      have hu4 : Hid (∀ j, u4.ownBlock = some j → w.heap.size ≤ j ∧ j < wr.heap.size) := HCL.out.ptr.inside
      have k5 : w5.heap[w3.heap.size]? = some (.cells #[.bool cc.t, .int .i64 cc.n, .int .i64 cc.k] 27 (0, 0)) := (HK5.out _ (by omega) (fun e => by have := (hu4.out _ e.symm).2; omega)).trans k4
      have m0 : w5.cell? ⟨w3.heap.size, 0, none⟩ = some (.bool cc.t) := cell_of_row _ _ _ _ _ _ k5
      have m1 : w5.cell? ⟨w3.heap.size, 1, none⟩ = some (.int .i64 cc.n) := cell_of_row _ _ _ _ _ _ k5
      have m2 : w5.cell? ⟨w3.heap.size, 2, none⟩ = some (.int .i64 cc.k) := cell_of_row _ _ _ _ _ _ k5
      have hd5 : OwnS w5 w.heap.size 27 3 u5 k (celK (mkC A) k) := HCL.out.doc.keep fun j hj => by
        have hin := HCL.out.doc.inside j hj
        have hne : some j ≠ u4.ownBlock := fun e => by
          obtain ⟨c1, e1⟩ := HCL.out.doc.type hj
          obtain ⟨c2, e2⟩ := HCL.out.ptr.type e.symm
          rw [e1] at e2; cases e2
        exact (HK5.out j (by omega) hne).trans ((hb4.block j (by omega)).trans (HB3.out.block j (by omega)))
      have hb6 : Below w5.heap.size w5 (w5.alloc (.cells #[.bool cc.t, .int .i64 cc.n, .int .i64 cc.k] 27)) := (Below.refl _ _).alloc (Nat.le_refl _) _
      have HBA5 : Hid (Below w.heap.size w w5) := hide_it ((HBL.out.trans ((HB3.out.trans ((hb4.trans (hb5.mono (by omega))).mono (by omega))).mono hz)).grown hg5 (by simp; omega) (fun j e => (hu4.out j e).1))
      clear k4 k5 hb5 hg5 hat5 ho4
      have HO5 := hide_it ho5
      clear ho5
      go_wp2_with (at_builtin; refine stopHere ?_)
      unfold Hid
      refine wpList_append_S rfl _ _ 47 47 rfl (.agg #[.bool false, .int .i64 0, .int .i64 0]) Try.underlying47 infoK rfl rfl (hd5.below hb6) _ rfl 1 _ (srcK w5 cc) (by unfold maxLen; omega) (by omega) (by have := hb6.size; omega) ?_
      intro v6 w6 ho6 hg6 hat6
      have hz6 := hg6.size
      have hsz6 : w5.heap.size < w6.heap.size := by simp at hz6; omega
      have HK6 : Hid (∀ j, j < w5.heap.size → some j ≠ u5.ownBlock → w6.heap[j]? = w5.heap[j]?) := fun j hj hne => (hg6.block j (by simp; omega) hne).trans (hb6.block j hj)
      have HO6 := hide_it ho6
      have hu5 : Hid (∀ j, u5.ownBlock = some j → w.heap.size ≤ j ∧ j < wr.heap.size) := HCL.out.doc.inside
      have HBA6 : Hid (Below w.heap.size w w6) := hide_it ((HBA5.out.trans (hb6.mono (by omega))).grown hg6 (by simp; omega) (fun j e => (hu5.out j e).1))
      clear ho6 hg6 hat6 hb6 m0 m1 m2
      go_wp2
      go_roundw
      case rel =>
        have old : ∀ j, j < wr.heap.size → some j ≠ u4.ownBlock → some j ≠ u5.ownBlock → w6.heap[j]? = wr.heap[j]? := fun j hj h1 h2 =>
          (HK6.out j (by omega) h2).trans ((HK5.out j (by omega) h1).trans ((hb4.block j (by omega)).trans (HB3.out.block j hj)))
        have hclk : ∀ j C0, wr.heap[j]? = some (.cells C0 59 (0, 0)) → some j ≠ u4.ownBlock ∧ some j ≠ u5.ownBlock := fun j C0 e0 => by
          constructor
          · intro e
            obtain ⟨c2, e2⟩ := HCL.out.ptr.type e.symm
            rw [e0] at e2; cases e2
          · intro e
            obtain ⟨c2, e2⟩ := HCL.out.doc.type e.symm
            rw [e0] at e2; cases e2
        have hnp : ∀ i, i < k → (if i = k then wr.heap.size + 1 else P i) = P i := fun i hi => if_neg (by omega)
        refine ⟨k + 1, fun i => if i = k then wr.heap.size + 1 else P i, by omega, by go_num, ⟨?_, ?_, ?_, ?_, ?_, ?_⟩, ?_⟩
        · rw [celP_succ, celP_congr hnp, if_pos rfl, HM.out, ← HV.out]
          exact HO5.out.keep fun j hj => HK6.out j (HO5.out.inside j hj).2 (fun e => by
            obtain ⟨c1, e1⟩ := HO5.out.type hj
            obtain ⟨c2, e2⟩ := hd5.type e.symm
            rw [e1] at e2; cases e2)
        · rw [celK, HM.out]
          exact HO6.out
        · intro i hi
          by_cases e : i = k
          · subst e
            rw [if_pos rfl, HM.out]
            intro ht
            have hl := HP3.out.lt ht
            rw [HK6.out _ (by omega) (fun e => by have := (hu5.out _ e.symm).2; omega), HK5.out _ (by omega) (fun e => by have := (hu4.out _ e.symm).2; omega), hb4.block _ hl]
            exact HP3.out ht
          · rw [if_neg e]
            have hpk := HCL.out.pk i (by omega)
            intro ht
            obtain ⟨n1, n2⟩ := hclk _ _ (hpk ht)
            rw [old _ (hpk.lt ht) n1 n2]; exact hpk ht
        · intro i hi
          by_cases e : i = k
          · subst e; rw [HM.out]; exact hok2
          · exact HCL.out.ok i (by omega)
        · intro i hi
          by_cases e : i = k
          · subst e; rw [if_pos rfl]; omega
          · rw [if_neg e]; have := HCL.out.low i (by omega); omega
        · intro i j hi hj hij
          have l1 := fun i hi => HCL.out.low i hi
          by_cases e : i = k
          · subst e
            rw [if_pos rfl, if_neg (fun e => hij e.symm)]; have := l1 j (by omega); omega
          · rw [if_neg e]
            by_cases e2 : j = k
            · subst e2; rw [if_pos rfl]; have := l1 i (by omega); omega
            · rw [if_neg e2]; exact HCL.out.apart i j (by omega) (by omega) hij
        · exact HBA6.out
      case measure => simp [intOf]; omega
    · obtain rfl : k = n := by omega
      have HO := hide_it hcl
      have HB := hide_it hbl
      clear hcl hbl
      go_wp2
      go_ret2
      exact ⟨⟨_, _, P, rfl, HO.out⟩, HB.out⟩

end Go.Proofs.Ythlkegemkkepgaa
