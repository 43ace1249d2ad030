/- Over's walk: a pair was handed over. -/
import Derived.Test.YtbafjkanbbcbgaaXv6
import Derived.Test.YtbafjkanbbcbgaaRq1
namespace Go.Proofs.Ytbafjkanbbcbgaa
open Go.RowKit Go.Maps Go.Shelf

theorem le_or (x y : ByteArray) : (Op.bytesLess y.toList x.toList || y.toList == x.toList) = !(Op.bytesLess x.toList y.toList) := by
  rw [Lib.toList_data, Lib.toList_data, bless_list, bless_list]
  generalize x.data.toList = a
  generalize y.data.toList = b
  by_cases e : b = a
  · subst e; rw [WideAt.bytes_irrefl]; simp
  · have hne : (b == a) = false := by simpa using e
    rw [hne, Bool.or_false]
    rcases WideAt.bytes_total b a e with h | h
    · rw [h]
      cases h2 : bytesBefore a b with
      | false => rfl
      | true => have := WideShapes.bytes_trans _ _ _ h h2; rw [WideAt.bytes_irrefl] at this; cases this
    · rw [h]
      cases h2 : bytesBefore b a with
      | false => rfl
      | true => have := WideShapes.bytes_trans _ _ _ h h2; rw [WideAt.bytes_irrefl] at this; cases this
theorem roundIn_in {F : Fence} {n : Nat} {P : Program} {l : Nat} {f : FuncId} {tmps : Array Value} {assign body : Code} {w : World} {R : Ending → World → Prop} (l2 : Nat) (h : RoundIn F n P l f tmps assign body w R) : RoundIn (F.inRound l2) n P l f tmps assign body w R := h

section
variable {J Jx : (Nat → Prop) → List Pn → World → Prop} {K0 Kr Ex : Nat → Prop} {L : List (Pw × Nat)} {wr : List UInt8 → Bool} {us : List Pn} {F : Nat → Prop} {M : List Vn} {l Yb b6 b7 l2 : Nat} {mc g : Option Nat} {zs : List Vn} {k i i2 : Nat} {a : Option Addr} {n c : Nat} {T T' : Nat → Prop} {pre : List Pn} {x : Pn} {X w W' : World}
/-- The first of the puts is gone. -/
theorem OCt.cut (h : OCt F M l Yb b6 b7 mc g zs i a n c w) (hn : n = zs.length - i) (hi : i < zs.length) (hne : ∀ j, OwnO Yb b6 b7 mc g j → F j → False) :
    OCt F M l Yb b6 b7 mc g zs (i + 1) (if c = 1 then a else a.map (·.add 4)) (n - 1) (c - 1) (w.setCell ⟨b7, 0, none⟩ (.slice (if c = 1 then a else a.map (·.add 4)) (n - 1) (c - 1))) := by
  have hyx : Yb ≠ b7 := fun e => by have h1 := h.yb; rw [e] at h1; have := (show w.heap[b7]? = _ from h1).symm.trans (show w.heap[b7]? = _ from h.x7); cases this
  have h6x : b6 ≠ b7 := fun e => by have h1 := h.x6; rw [e] at h1; have := (show w.heap[b7]? = _ from h1).symm.trans (show w.heap[b7]? = _ from h.x7); cases this
  have hlen : (zs.drop i).length = n := by rw [List.length_drop]; exact hn.symm
  have how := h.ow
  unfold OwV at how
  rw [hlen] at how
  have hd := OwnS.drop how (m := 1) (by omega)
  rw [show (celV (zs.drop i)).drop (1 * 4) = celV (zs.drop (i + 1)) by
    rw [List.drop_eq_getElem_cons hi]
    show (quadV zs[i] ++ celV (zs.drop (i + 1))).drop 4 = _
    rw [List.drop_append_of_le_length (by simp [quadV])]
    simp [quadV]] at hd
  have hgb : ∀ j, (Value.slice (if c = 1 then a else a.map (·.add 4)) (n - 1) (c - 1)).ownBlock = some j → (Value.slice a n c).ownBlock = some j := fun j hj => by
    split at hj
    · cases a with
      | none => cases hj
      | some ad => cases ad; exact hj
    · cases a with
      | none => cases hj
      | some ad => cases ad; exact hj
  have hg7 : ∀ j, (Value.slice a n c).ownBlock = some j → j ≠ b7 := fun j hj e => by
    obtain ⟨cur, h2⟩ := OwnS.type h.ow hj
    rw [e, show w.heap[b7]? = _ from h.x7] at h2; cases h2
  have hc7 : ∀ b, mc = some b → b ≠ b7 := fun b e e2 => by
    obtain ⟨es, q, h2⟩ := owns_obj (h.cp.2.1 b e)
    rw [e2, show w.heap[b7]? = _ from h.x7] at h2; cases h2
  refine ⟨h.yb.other hyx _, h.x6.other h6x _, h.x7.set _, h.cp.keep fun b e => Below.heap_setCell _ _ _ _ (hc7 b e), ?_, fun j hj => h.gb j (hgb j hj), fun y hy => ⟨⟨(h.vl y hy).1.b.hold fun j hj => Below.heap_setCell _ _ _ _ (fun e => hne b7 (.inr (.inr (.inl rfl))) (by have e2 : j = b7 := e; rw [← e2]; exact (h.vl y hy).1.f j hj)), (h.vl y hy).1.f⟩, (h.vl y hy).2⟩⟩
  unfold OwV
  rw [show (zs.drop (i + 1)).length = n - 1 by rw [List.length_drop]; omega]
  exact OwnS.keep hd fun j hj => Below.heap_setCell _ _ _ _ (hg7 j (hgb j hj))
theorem OSt.weak (h : OSt J K0 Kr Ex L wr us F M l Yb b6 b7 l2 mc g zs k i i2 a n c T pre X w) : OSt J K0 Kr (fun _ => False) L wr us F M l Yb b6 b7 l2 mc g zs k i i2 a n c T pre X w :=
  ⟨h.j, h.ch, h.b, h.k0, h.kr, fun j hj => h.own j (hj.imp id fun e => e.elim), h.l2, h.ct, h.ln, h.inv⟩
theorem OSt.less (h : OSt J K0 Kr Ex L wr us F M l Yb b6 b7 l2 mc g zs k i i2 a n c T pre X w) {Ex' : Nat → Prop} (he : ∀ j, Ex' j → tillT T X w j) : OSt J K0 Kr Ex' L wr us F M l Yb b6 b7 l2 mc g zs k i i2 a n c T pre X w :=
  ⟨h.j, h.ch, h.b, h.k0, h.kr, fun j hj => by
    rcases hj with hj | hj
    · exact h.own j (.inl hj)
    · exact he j hj, h.l2, h.ct, h.ln, h.inv⟩
/-- Behind a pair that was taken. -/
theorem OSt.renew (h : OSt J K0 Kr Ex L wr us F M l Yb b6 b7 l2 mc g zs k i i2 a n c T pre X w) (hl : l2 < w.heap.size) (hFK : ∀ j, F j → Kr j)
    (r1 : w.heap.size ≤ W'.heap.size) (r2 : ∀ j, OwnO Yb b6 b7 mc g j ∨ Ex j ∨ K0 j ∨ Kr j → j < w.heap.size → W'.heap[j]? = w.heap[j]?) (r3 : ∀ j, T' j → j < W'.heap.size) (r4 : ∀ j, K0 j → T' j) (r5 : ∀ j, OwnO Yb b6 b7 mc g j ∨ Ex j → T' j) (r8 : ∀ j, (j = l2 ∨ j + 1 = l2) → w.heap.size ≤ j ∨ T' j) (hj : J T' (pre ++ [x]) W')
    {k' i3 : Nat} (hinv : ∃ tg : List (Pw × Nat), tg.map (·.1) = saysP (pre ++ [x]) ∧ tg ++ ovT wr k' ((zs.drop i3).map prX) ((us.map prU).drop k') = L) : OSt J K0 Kr Ex L wr us F M l Yb b6 b7 l2 mc g zs k' i i3 a n c T' (pre ++ [x]) W' W' :=
  ⟨hj, Chg.refl _ _, r3, r4, fun j hj => by have := h.kr j hj; have := h.ch.size; omega, fun j hj => .inl (r5 j hj), fun j hj => by
      rcases r8 j hj with h1 | h1
      · omega
      · exact .inr h1, h.ct.keep (fun j ho hl => r2 j (.inl ho) hl) (fun j ho hl => r2 j (.inr (.inr (.inr (hFK j ho)))) hl), h.ln, hinv⟩
/-- .. and the put is gone. -/
theorem OSt.renew_put (h : OSt J K0 Kr Ex L wr us F M l Yb b6 b7 l2 mc g zs k i i2 a n c T pre X w) (hl : l2 < w.heap.size) (hFK : ∀ j, F j → Kr j) (hi : i < zs.length) (hne : ∀ j, OwnO Yb b6 b7 mc g j → F j → False)
    (r1 : w.heap.size ≤ W'.heap.size) (r2 : ∀ j, OwnO Yb b6 b7 mc g j ∨ Ex j ∨ K0 j ∨ Kr j → j < w.heap.size → W'.heap[j]? = w.heap[j]?) (r3 : ∀ j, T' j → j < W'.heap.size) (r4 : ∀ j, K0 j → T' j) (r5 : ∀ j, OwnO Yb b6 b7 mc g j ∨ Ex j → T' j) (r8 : ∀ j, (j = l2 ∨ j + 1 = l2) → w.heap.size ≤ j ∨ T' j) (hj : J T' (pre ++ [x]) W')
    (hinv : ∃ tg : List (Pw × Nat), tg.map (·.1) = saysP (pre ++ [x]) ∧ tg ++ ovT wr k ((zs.drop (i + 1)).map prX) ((us.map prU).drop k) = L) : OSt J K0 Kr Ex L wr us F M l Yb b6 b7 l2 mc g zs k (i + 1) (i + 1) (if c = 1 then a else a.map (·.add 4)) (n - 1) (c - 1) T' (pre ++ [x]) W' (W'.setCell ⟨b7, 0, none⟩ (.slice (if c = 1 then a else a.map (·.add 4)) (n - 1) (c - 1))) := by
  have hct := h.ct.keep (w' := W') (fun j ho hl => r2 j (.inl ho) hl) (fun j ho hl => r2 j (.inr (.inr (.inr (hFK j ho)))) hl)
  refine ⟨hj, (Chg.refl _ _).setCell _ _ fun _ => r5 b7 (.inl (.inr (.inr (.inl rfl)))), r3, r4, fun j hj => by have := h.kr j hj; have := h.ch.size; omega, fun j hj => .inl (r5 j hj), fun j hj => ?_, hct.cut h.ln hi hne, by have := h.ln; omega, hinv⟩
  rcases r8 j hj with h1 | h1
  · omega
  · exact .inr h1
/-- The next put: told at or below the next pair, or behind all pairs. -/
theorem OSt.inv_put (h : OSt J K0 Kr Ex L wr us F M l Yb b6 b7 l2 mc g zs k i i2 a n c T pre X w) {y : Vn} (hy : zs[i2]? = some y) {t : Nat} (hx : prU x = prX y) (hu : (∃ u, us[k]? = some u ∧ leK (ky y) (prU u).1 = true ∧ t = k + 1) ∨ (us.length ≤ k ∧ t = k)) :
    L[pre.length]? = some (prU x, t) ∧ ∃ tg : List (Pw × Nat), tg.map (·.1) = saysP (pre ++ [x]) ∧ tg ++ ovT wr k ((zs.drop (i2 + 1)).map prX) ((us.map prU).drop k) = L := by
  obtain ⟨tg, h1, h2⟩ := h.inv
  have hl : tg.length = pre.length := by have := congrArg List.length h1; unfold saysP at this; simpa using this
  have hi2 := (List.getElem?_eq_some_iff.1 hy).1
  have hd : zs.drop i2 = y :: zs.drop (i2 + 1) := by
    rw [List.drop_eq_getElem_cons hi2, (List.getElem?_eq_some_iff.1 hy).2]
  have key : ovT wr k ((zs.drop i2).map prX) ((us.map prU).drop k) = (prX y, t) :: ovT wr k ((zs.drop (i2 + 1)).map prX) ((us.map prU).drop k) := by
    rw [hd, List.map_cons]
    rcases hu with ⟨u, hu, hle, rfl⟩ | ⟨hk, rfl⟩
    · have hku := (List.getElem?_eq_some_iff.1 hu).1
      have hdu : (us.map prU).drop k = prU u :: (us.map prU).drop (k + 1) := by
        rw [List.drop_eq_getElem_cons (by simpa using hku)]
        congr 1
        rw [List.getElem_map, (List.getElem?_eq_some_iff.1 hu).2]
      rw [hdu]
      exact ovT_put hle
    · rw [show (us.map prU).drop t = [] from List.drop_of_length_le (by simpa using hk)]
      rfl
  rw [key] at h2
  refine ⟨by rw [← h2, ← hl, List.getElem?_append_right (Nat.le_refl _), Nat.sub_self, hx]; rfl, tg ++ [(prX y, t)], ?_, by rw [List.append_assoc]; exact h2⟩
  rw [List.map_append, h1]
  unfold saysP
  rw [List.map_append]
  show _ ++ [prX y] = _ ++ [prU x]
  rw [hx]
/-- The next pair of under: no put is at or below it. -/
theorem OSt.inv_pair (h : OSt J K0 Kr Ex L wr us F M l Yb b6 b7 l2 mc g zs k i i2 a n c T pre X w) {u : Pn} (hu : us[k]? = some u) (hp : ∀ y, zs[i2]? = some y → leK (ky y) (prU u).1 = false) :
    (wr (prU u).1 = false → L[pre.length]? = some (prU u, k + 1) ∧ ∃ tg : List (Pw × Nat), tg.map (·.1) = saysP (pre ++ [u]) ∧ tg ++ ovT wr (k + 1) ((zs.drop i2).map prX) ((us.map prU).drop (k + 1)) = L) ∧ (wr (prU u).1 = true → ∃ tg : List (Pw × Nat), tg.map (·.1) = saysP pre ∧ tg ++ ovT wr (k + 1) ((zs.drop i2).map prX) ((us.map prU).drop (k + 1)) = L) := by
  obtain ⟨tg, h1, h2⟩ := h.inv
  have hl : tg.length = pre.length := by have := congrArg List.length h1; unfold saysP at this; simpa using this
  have hku := (List.getElem?_eq_some_iff.1 hu).1
  have hdu : (us.map prU).drop k = prU u :: (us.map prU).drop (k + 1) := by
    rw [List.drop_eq_getElem_cons (by simpa using hku)]
    congr 1
    rw [List.getElem_map, (List.getElem?_eq_some_iff.1 hu).2]
  rw [hdu, ovT_pair (fun p hp' => by
    rw [List.head?_map, List.head?_drop] at hp'
    cases hz : zs[i2]? with
    | none => rw [hz] at hp'; cases hp'
    | some y => rw [hz] at hp'; cases hp'; exact hp y hz)] at h2
  refine ⟨fun hw => ?_, fun hw => ?_⟩
  · rw [if_neg (by rw [hw]; decide)] at h2
    refine ⟨by rw [← h2, ← hl, List.getElem?_append_right (Nat.le_refl _), Nat.sub_self]; rfl, tg ++ [(prU u, k + 1)], ?_, by rw [List.append_assoc]; exact h2⟩
    rw [List.map_append, h1]
    unfold saysP
    rw [List.map_append]; rfl
  · rw [if_pos hw] at h2
    exact ⟨tg, h1, h2⟩
end

end Go.Proofs.Ytbafjkanbbcbgaa
