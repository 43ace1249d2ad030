/- What an Apply leaves as it was told; two filled stores. -/
import Derived.Test.YthaknohnccmfoaaSo31
namespace Go.Proofs.Ythaknohnccmfoaa
open Go.RowKit Go.Maps

/-- What a key's versions tell at a stamp. -/
def entT (n : Int) (ls : List Ver) : Option Ver := if upV ls n = 0 then none else some (vr ls (upV ls n - 1))
theorem up_snoc {ls : List Ver} {l : Ver} {n : Int} (h : n < l.n) : upV (ls ++ [l]) n = upV ls n := by
  unfold upV
  rw [List.filter_append, List.filter_cons_of_neg (by simp; omega)]; simp
theorem ent_snoc {ls : List Ver} {l : Ver} {n : Int} (h : n < l.n) : entT n (ls ++ [l]) = entT n ls := by
  unfold entT
  rw [up_snoc h]
  split
  · rfl
  · have := upV_le ls n
    rw [vr_left (by omega)]
theorem of_nodup {A : Cont} (hd : (A.map (·.1)).Nodup) : ∀ e ∈ A, lsOf A e.1 = e.2 := by
  unfold lsOf
  induction A with
  | nil => intro e he; cases he
  | cons f r ih =>
    intro e he
    rw [List.map_cons, List.nodup_cons] at hd
    rcases List.mem_cons.1 he with rfl | he
    · rw [List.find?_cons_of_pos (by simp)]; rfl
    · have hne : f.1 ≠ e.1 := fun h => hd.1 (by rw [h]; exact List.mem_map.2 ⟨e, he, rfl⟩)
      rw [List.find?_cons_of_neg (by simpa using hne)]
      exact ih hd.2 e he
theorem fm_setA {β : Type} {A : Cont} {k : List UInt8} {ls : List Ver} {g : List UInt8 × List Ver → Option β} (hg : ∀ e ∈ A, e.1 = k → g (e.1, ls) = g e) : (setA A k ls).filterMap g = A.filterMap g := by
  unfold setA
  induction A with
  | nil => rfl
  | cons f r ih =>
    have h1 : g (if (f.1 == k) = true then (f.1, ls) else f) = g f := by
      by_cases h : (f.1 == k) = true
      · rw [if_pos h]; exact hg f (List.mem_cons_self ..) (by simpa using h)
      · rw [if_neg h]
    rw [List.map_cons, List.filterMap_cons, List.filterMap_cons, ih fun e he => hg e (List.mem_cons_of_mem _ he), h1]
theorem fm_insA {β : Type} {A : Cont} {k : List UInt8} {g : List UInt8 × List Ver → Option β} (hg : g (k, []) = none) : (insA k A).filterMap g = A.filterMap g := by
  induction A with
  | nil => unfold insA; rw [List.filterMap_cons, hg]
  | cons f r ih =>
    unfold insA
    split
    · rw [List.filterMap_cons, hg]
    · rw [List.filterMap_cons, List.filterMap_cons, ih]
theorem hasK_mem {A : Cont} {e : List UInt8 × List Ver} (he : e ∈ A) : hasK A e.1 = true := List.any_eq_true.2 ⟨e, he, by simp⟩
theorem lsOf_has {A : Cont} {k : List UInt8} (h : hasK A k = false) : lsOf A k = [] := by
  unfold lsOf
  have : A.find? (fun e => e.1 == k) = none := List.find?_eq_none.2 fun e he h2 => by
    have : hasK A k = true := List.any_eq_true.2 ⟨e, he, h2⟩
    rw [h] at this; cases this
  rw [this]; rfl
theorem lsOf_setA {A : Cont} {k k' : List UInt8} {ls : List Ver} : lsOf (setA A k ls) k' = if k' = k then (if hasK A k = true then ls else []) else lsOf A k' := by
  unfold lsOf setA hasK
  induction A with
  | nil => simp
  | cons f r ih =>
    rw [List.map_cons, List.any_cons]
    by_cases h : k' = k
    · subst h
      rw [if_pos rfl] at ih ⊢
      by_cases h2 : (f.1 == k') = true
      · rw [if_pos h2, List.find?_cons_of_pos (by exact h2), h2]; rfl
      · rw [if_neg h2, List.find?_cons_of_neg (by exact h2), ih]
        have h3 : (f.1 == k') = false := by simpa using h2
        rw [h3, Bool.false_or]
    · rw [if_neg h] at ih ⊢
      by_cases h2 : (f.1 == k) = true
      · have h4 : f.1 = k := by simpa using h2
        have h3 : ¬ (f.1 == k') = true := by rw [h4]; simpa using fun e : k = k' => h e.symm
        rw [if_pos h2, List.find?_cons_of_neg (by exact h3), List.find?_cons_of_neg (by exact h3), ih]
      · rw [if_neg h2]
        by_cases h3 : (f.1 == k') = true
        · rw [List.find?_cons_of_pos (by exact h3), List.find?_cons_of_pos (by exact h3)]
        · rw [List.find?_cons_of_neg (by exact h3), List.find?_cons_of_neg (by exact h3), ih]
theorem lsOf_addA (A : Cont) (k k' : List UInt8) (l : Ver) : lsOf (addA A k l) k' = if k' = k then lsOf A k ++ [l] else lsOf A k' := by
  unfold addA
  rw [lsOf_setA]
  by_cases h : k' = k
  · rw [if_pos h, if_pos h]
    have : hasK (if hasK A k = true then A else insA k A) k = true := by
      split
      · assumption
      · unfold hasK
        exact List.any_eq_true.2 ⟨(k, []), by
          induction A with
          | nil => simp [insA]
          | cons f r ih =>
            unfold insA
            split
            · exact List.mem_cons_self ..
            · rename_i h1 _
              refine List.mem_cons_of_mem _ (ih fun h2 => h1 ?_)
              unfold hasK at h2 ⊢
              rw [List.any_cons, h2, Bool.or_true], by simp⟩
    rw [if_pos this]
  · rw [if_neg h, if_neg h]
    by_cases hh : hasK A k = true
    · rw [if_pos hh]
    · rw [if_neg hh, lsOf_insA (by simpa using hh)]
theorem get_earlier (A : Cont) (v : Vn) (k : List UInt8) {n : Int} (hn : n < v.n) : getA (applyA A v) k n = getA A k n := by
  unfold applyA
  split
  · show live (entT n (lsOf (addA A v.k.data.toList (verOf v)) k)) = live (entT n (lsOf A k))
    rw [lsOf_addA]
    split
    · rename_i h; rw [ent_snoc (show n < (verOf v).n from hn), h]
    · rfl
  · rfl
theorem scan_earlier {A : Cont} (hd : (A.map (·.1)).Nodup) (v : Vn) (f t : List UInt8) {n : Int} (hn : n < v.n) : scanA (applyA A v) f t n = scanA A f t n := by
  unfold applyA
  split
  · have e1 : ∀ B : Cont, scanA B f t n = B.filterMap fun e => if inK f t e.1 = true then (live (entT n e.2)).map fun z => (e.1, z) else none := fun B => by
      unfold scanA
      induction B with
      | nil => rfl
      | cons e r ih =>
        rw [List.filter_cons, List.filterMap_cons]
        by_cases h : inK f t e.1 = true
        · rw [if_pos h, if_pos h, List.filterMap_cons, ih]; rfl
        · rw [if_neg h, if_neg h]; exact ih
    rw [e1, e1]
    unfold addA
    have hg0 : (if inK f t v.k.data.toList = true then (live (entT n [])).map fun z => (v.k.data.toList, z) else none) = (none : Option (List UInt8 × List Nat)) := by
      split <;> rfl
    have key : ∀ B : Cont, (B.map (·.1)).Nodup → (lsOf B v.k.data.toList = lsOf A v.k.data.toList) → (setA B v.k.data.toList (lsOf A v.k.data.toList ++ [verOf v])).filterMap (fun e => if inK f t e.1 = true then (live (entT n e.2)).map fun z => (e.1, z) else none) = B.filterMap (fun e => if inK f t e.1 = true then (live (entT n e.2)).map fun z => (e.1, z) else none) := fun B hB hl => by
      refine fm_setA fun e he hk => ?_
      have h1 := of_nodup hB e he
      rw [hk, hl] at h1
      simp only [ent_snoc (show n < (verOf v).n from hn), h1]
    by_cases hh : hasK A v.k.data.toList = true
    · rw [if_pos hh]; exact key A hd rfl
    · have hf : hasK A v.k.data.toList = false := by simpa using hh
      rw [if_neg hh, key _ (insA_nodup hd hf) (lsOf_insA hf), fm_insA hg0]
  · rfl
theorem td_earlier {A : Cont} (hd : (A.map (·.1)).Nodup) (v : Vn) (x : Stv) (hn : x.stamp < v.n) (hk : x.k = 1 ∨ x.k = 3) : tdA (applyA A v) x = tdA A x := by
  unfold tdA
  rcases hk with h | h
  · rw [if_neg (by omega), if_pos h, if_neg (by omega), if_pos h, get_earlier _ _ _ hn]
  · rw [if_neg (by omega), if_neg (by omega), if_neg (by omega), if_pos h, if_neg (by omega), if_neg (by omega), if_neg (by omega), if_pos h, scan_earlier hd _ _ _ hn]

section
variable {w wr z W : World} {s1 s2 X : Nat} {A1 A2 : Cont}
/-- The same call of both. -/
theorem DuoX.bothS (h : DuoX w z s1 s2 A1 A2 X) (h1 : Fine A1) (h2 : Fine A2) (x : Stv) (hx : StvOk w x) :
    Calls Try.prog 13 #[.pointer (some ⟨s1, 0, none⟩), stepV x] z fun e z1 => ∃ v1, e = .returned v1 ∧ z1.heap[X]? = z.heap[X]? ∧ Below w.heap.size w z1 ∧
      Calls Try.prog 13 #[.pointer (some ⟨s2, 0, none⟩), stepV x] z1 fun e z2 => ∃ v2, e = .returned v2 ∧ TdIs z2 v1 (tdA A1 x) ∧ TdIs z2 v2 (tdA A2 x) ∧ DuoX w z2 s1 s2 (nextA A1 x) (nextA A2 x) X ∧ z2.heap[X]? = z.heap[X]? := by
  obtain ⟨F1, mb1, M1, F2, mb2, M2, a1, rfl, a2, rfl, a3, a4, a5⟩ := h.st
  have hX := h.lt
  refine (callS_any a1 h1 x (hx.below h.bel) (stv_far hx fun j hj => (a4 j hj).1)).mono ?_
  rintro e z1 ⟨⟨v1, rfl, hv1⟩, k1⟩
  have kx := k1.chg.block X hX fun hF => (a4 X hF).2 rfl
  refine ⟨v1, rfl, kx, h.bel.trans (k1.chg.below (fun j hj => (a4 j hj).1) h.bel.size), ?_⟩
  obtain ⟨mb1', M1', b1, b2⟩ := k1.st
  have a2' := a2.chg k1.chg a3
  have bel1 := h.bel.trans (k1.chg.below (fun j hj => (a4 j hj).1) h.bel.size)
  have hz1 := k1.chg.size
  have hzw := h.bel.size
  refine (callS_any a2' h2 x (hx.below bel1) (stv_far hx fun j hj => (a5 j hj).1)).mono ?_
  rintro e z2 ⟨⟨v2, rfl, hv2⟩, k2⟩
  obtain ⟨mb2', M2', c1, c2⟩ := k2.st
  have hz2 := k2.chg.size
  refine ⟨v2, rfl, hv1 F2 z2 k2.chg (fun j hj => a2.lt j hj), hv2.is, ⟨⟨_, mb1', M1', _, mb2', M2', b1.chg k2.chg ?_, b2, c1, c2, ?_, ?_, ?_⟩, bel1.trans (k2.chg.below (fun j hj => (a5 j hj).1) bel1.size), by omega⟩, (k2.chg.block X (by omega) fun hF => (a5 X hF).2 rfl).trans kx⟩
  · intro j hj hj2
    rcases hj2 with hj2 | hj2
    · exact a3 j hj2 hj
    · have := a2.lt j hj; have := hj2.1; omega
  · intro j hj hj2
    rcases hj with hj | hj
    · rcases hj2 with hj2 | hj2
      · exact a3 j hj hj2
      · have := a1.lt j hj; have := hj2.1; omega
    · rcases hj2 with hj2 | hj2
      · have := a2.lt j hj2; have := hj.1; omega
      · have := hj.2; have := hj2.1; omega
  · intro j hj
    rcases hj with hj | hj
    · exact a4 j hj
    · have := hj.1; exact ⟨by omega, by omega⟩
  · intro j hj
    rcases hj with hj | hj
    · exact a5 j hj
    · have := hj.1; exact ⟨by omega, by omega⟩
end
/-- Two stores made one behind the other. -/
theorem duo_fil {w w1 w2 : World} {s1 s2 : Nat} {A1 A2 : Cont} (h1 : Fil w w1 s1 A1) (h2 : Fil w1 w2 s2 A2) : Duo w w2 s1 s2 A1 A2 := by
  obtain ⟨F1, mb1, M1, a1, a2, a3⟩ := h1.st
  obtain ⟨F2, mb2, M2, b1, b2, b3⟩ := h2.st
  exact ⟨⟨F1, mb1, M1, F2, mb2, M2, a1.below h2.bel, a2, b1, b2, fun j h3 h4 => by have := a1.lt j h3; have := b3 j h4; omega, a3, fun j hj => Nat.le_trans h1.bel.size (b3 j hj)⟩, h1.bel.trans (h2.bel.mono h1.bel.size)⟩
/-- The first of two takes a version. -/
theorem Duo.app {w z : World} {s1 s2 : Nat} {A1 A2 : Cont} (h : Duo w z s1 s2 A1 A2) (hf : Fine A1) (y : Vsn) (hy : VsnOk w y) : Calls Try.prog 31 #[.pointer (some ⟨s1, 0, none⟩), verV (vnV y)] z fun e z' => (∃ g : Int, e = .returned (.int .i64 g)) ∧ Duo w z' s1 s2 (applyA A1 (vnV y)) A2 := by
  obtain ⟨F, mb, M, hs, rfl, hl, hn⟩ := h.one
  refine (apply_any hs (vnV y) (vnV_ok (hy.below h.bel)) (fun b o h0 e hb => by
    have h1 := hl b hb
    rcases hy.val.row with h2 | ⟨b2, o2, e2, h3, _⟩
    · have h0 : 0 < y.val.p.length := h0
      omega
    · have e : y.val.a = some ⟨b, o, none⟩ := e
      rw [e] at e2; cases e2; omega) hf.tot (by have := hf.keys; simpa [abs] using this)).mono ?_
  rintro e z' ⟨rfl, h2⟩
  exact ⟨⟨_, rfl⟩, hn z' _ h2.to⟩
theorem next_same (A : Cont) (x : Stv) (hk : x.k = 1 ∨ x.k = 3) : nextA A x = A := by
  unfold nextA; rw [if_neg (by omega), if_neg (by omega)]
theorem td_fineS {A : Cont} (h : Fine A) (x : Stv) (hk : x.k = 1 ∨ x.k = 3) : TdFine (tdA A x) := by
  rcases hk with hk | hk
  · exact td_fine h x (.inr (.inl hk))
  · have e : tdA A x = ⟨0, 0, 0, false, [], scanA A x.key.data.toList x.to.data.toList x.stamp, []⟩ := by
      unfold tdA; rw [if_neg (by omega), if_neg (by omega), if_neg (by omega), if_pos hk]
    obtain ⟨h1, h2⟩ := scan_z h x.key.data.toList x.to.data.toList x.stamp
    rw [e]
    exact ⟨Nat.zero_le _, h1, h2, Nat.zero_le _, fun y hy => by cases hy⟩

end Go.Proofs.Ythaknohnccmfoaa
