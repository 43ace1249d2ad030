/- Two stores, called beside a box that stands. -/
import Derived.Test.YthaknohnccmfoaaSo25
import Derived.Test.YthaknohnccmfoaaReg2
namespace Go.Proofs.Ythaknohnccmfoaa
open Go.RowKit Go.Maps

structure DuoX (w wr : World) (s1 s2 : Nat) (A1 A2 : Cont) (X : Nat) : Prop where
  st : ∃ F1 mb1 M1 F2 mb2 M2, Sto wr F1 s1 mb1 M1 ∧ abs M1 = A1 ∧ Sto wr F2 s2 mb2 M2 ∧ abs M2 = A2 ∧ (∀ j, F1 j → ¬ F2 j) ∧ (∀ j, F1 j → w.heap.size ≤ j ∧ j ≠ X) ∧ ∀ j, F2 j → w.heap.size ≤ j ∧ j ≠ X
  bel : Below w.heap.size w wr
  lt : X < wr.heap.size
section
variable {w wr z W : World} {s1 s2 X : Nat} {A1 A2 : Cont}
theorem Duo.x (h : Duo w wr s1 s2 A1 A2) (hb : Below wr.heap.size wr W) (hl : wr.heap.size < W.heap.size) : DuoX w W s1 s2 A1 A2 wr.heap.size := by
  obtain ⟨F1, mb1, M1, F2, mb2, M2, h1, h2, h3, h4, h5, h6, h7⟩ := h.st
  exact ⟨⟨F1, mb1, M1, F2, mb2, M2, h1.below hb, h2, h3.below hb, h4, h5, fun j hj => ⟨h6 j hj, fun e => by have := h1.lt j hj; omega⟩, fun j hj => ⟨h7 j hj, fun e => by have := h3.lt j hj; omega⟩⟩, h.bel.trans (hb.mono h.bel.size), hl⟩
theorem DuoX.duo (h : DuoX w z s1 s2 A1 A2 X) : Duo w z s1 s2 A1 A2 := by
  obtain ⟨F1, mb1, M1, F2, mb2, M2, h1, h2, h3, h4, h5, h6, h7⟩ := h.st
  exact ⟨⟨F1, mb1, M1, F2, mb2, M2, h1, h2, h3, h4, h5, fun j hj => (h6 j hj).1, fun j hj => (h7 j hj).1⟩, h.bel⟩
theorem DuoX.swap (h : DuoX w z s1 s2 A1 A2 X) : DuoX w z s2 s1 A2 A1 X := by
  obtain ⟨F1, mb1, M1, F2, mb2, M2, h1, h2, h3, h4, h5, h6, h7⟩ := h.st
  exact ⟨⟨F2, mb2, M2, F1, mb1, M1, h3, h4, h1, h2, fun j a b => h5 j b a, h7, h6⟩, h.bel, h.lt⟩
theorem DuoX.below (h : DuoX w z s1 s2 A1 A2 X) (hb : Below z.heap.size z W) : DuoX w W s1 s2 A1 A2 X := by
  obtain ⟨F1, mb1, M1, F2, mb2, M2, h1, h2, h3, h4, h5⟩ := h.st
  exact ⟨⟨F1, mb1, M1, F2, mb2, M2, h1.below hb, h2, h3.below hb, h4, h5⟩, h.bel.trans (hb.mono h.bel.size), Nat.lt_of_lt_of_le h.lt hb.size⟩
/-- One of them is called: the other and the box stand. -/
theorem DuoX.step (h : DuoX w z s1 s2 A1 A2 X) : ∃ F mb M, Sto z F s1 mb M ∧ abs M = A1 ∧ (∀ j, F j → w.heap.size ≤ j) ∧ ∀ z' A', CallTo z F s1 A' z' → DuoX w z' s1 s2 A' A2 X ∧ z'.heap[X]? = z.heap[X]? := by
  obtain ⟨F1, mb1, M1, F2, mb2, M2, h1, h2, h3, h4, h5, h6, h7⟩ := h.st
  refine ⟨F1, mb1, M1, h1, h2, fun j hj => (h6 j hj).1, fun z' A' k => ?_⟩
  obtain ⟨mb', M', hs, ha⟩ := k.st
  have hX := h.lt
  refine ⟨⟨⟨_, mb', M', F2, mb2, M2, hs, ha, h3.chg k.chg h5, h4, fun j a b => ?_, fun j a => ?_, h7⟩, h.bel.trans (k.chg.below (fun j hj => (h6 j hj).1) h.bel.size), Nat.lt_of_lt_of_le hX k.chg.size⟩, k.chg.block X hX fun hF => (h6 X hF).2 rfl⟩
  · rcases a with a | a
    · exact h5 j a b
    · have := h3.lt j b; omega
  · rcases a with a | a
    · exact h6 j a
    · exact ⟨Nat.le_trans h.bel.size a.1, by have := a.1; omega⟩
theorem stv_far {F : Nat → Prop} {x : Stv} (hx : StvOk w x) (hF : ∀ j, F j → w.heap.size ≤ j) : ∀ b o, 0 < x.val.p.length → x.val.a = some ⟨b, o, none⟩ → ¬ F b := fun b o h0 e hb => by
  have h1 := hF b hb
  rcases hx.val.row with h2 | ⟨b2, o2, e2, h3, _⟩
  · omega
  · rw [e] at e2; cases e2; omega
theorem DuoX.vac (h : DuoX w z s1 s2 A1 A2 X) (hf : Fine A1) (n : Int) : Calls Try.prog 23 #[.pointer (some ⟨s1, 0, none⟩), .int .i64 n] z fun e z' => (∃ g : Int, e = .returned (.int .i64 g)) ∧ DuoX w z' s1 s2 (vacA A1 n) A2 X ∧ z'.heap[X]? = z.heap[X]? := by
  obtain ⟨F, mb, M, hs, rfl, _, hn⟩ := h.step
  refine (vacuum_any hs hf.tot n).mono ?_
  rintro e z' ⟨rfl, ⟨M', g1, g2⟩, g3⟩
  exact ⟨⟨_, rfl⟩, hn z' _ ⟨⟨mb, M', g1, g2⟩, g3⟩⟩
theorem DuoX.app (h : DuoX w z s1 s2 A1 A2 X) (hf : Fine A1) (x : Stv) (hx : StvOk w x) : Calls Try.prog 31 #[.pointer (some ⟨s1, 0, none⟩), verV (vnOf x)] z fun e z' => (∃ g : Int, e = .returned (.int .i64 g)) ∧ DuoX w z' s1 s2 (applyA A1 (vnOf x)) A2 X ∧ z'.heap[X]? = z.heap[X]? := by
  obtain ⟨F, mb, M, hs, rfl, hl, hn⟩ := h.step
  refine (apply_any hs (vnOf x) (vnOf_ok (hx.below h.bel)) (stv_far hx hl) hf.tot (by have := hf.keys; simpa [abs] using this)).mono ?_
  rintro e z' ⟨rfl, h2⟩
  exact ⟨⟨_, rfl⟩, hn z' _ h2.to⟩
/-- The same call of both. -/
theorem DuoX.both (h : DuoX w z s1 s2 A1 A2 X) (h1 : Fine A1) (h2 : Fine A2) (x : Stv) (hx : StvOk w x) (hk : x.k ≠ 3) :
    Calls Try.prog 13 #[.pointer (some ⟨s1, 0, none⟩), stepV x] z fun e z1 => ∃ v1, e = .returned v1 ∧ z1.heap[X]? = z.heap[X]? ∧
      Calls Try.prog 13 #[.pointer (some ⟨s2, 0, none⟩), stepV x] z1 fun e z2 => ∃ v2, e = .returned v2 ∧ TdIs z2 v1 (tdA A1 x) ∧ TdIs z2 v2 (tdA A2 x) ∧ DuoX w z2 s1 s2 (nextA A1 x) (nextA A2 x) X ∧ z2.heap[X]? = z.heap[X]? := by
  obtain ⟨F1, mb1, M1, F2, mb2, M2, a1, rfl, a2, rfl, a3, a4, a5⟩ := h.st
  have hX := h.lt
  refine (call_any a1 h1 x (hx.below h.bel) (stv_far hx fun j hj => (a4 j hj).1) (fun e => absurd e hk)).mono ?_
  rintro e z1 ⟨⟨v1, rfl, hv1⟩, k1⟩
  have kx := k1.chg.block X hX fun hF => (a4 X hF).2 rfl
  refine ⟨v1, rfl, kx, ?_⟩
  obtain ⟨mb1', M1', b1, b2⟩ := k1.st
  have a2' := a2.chg k1.chg a3
  have bel1 := h.bel.trans (k1.chg.below (fun j hj => (a4 j hj).1) h.bel.size)
  have hz1 := k1.chg.size
  have hzw := h.bel.size
  refine (call_any a2' h2 x (hx.below bel1) (stv_far hx fun j hj => (a5 j hj).1) (fun e => absurd e hk)).mono ?_
  rintro e z2 ⟨⟨v2, rfl, hv2⟩, k2⟩
  obtain ⟨mb2', M2', c1, c2⟩ := k2.st
  have hz2 := k2.chg.size
  refine ⟨v2, rfl, hv1 F2 z2 k2.chg (fun j hj => a2.lt j hj), hv2.is, ⟨⟨_, mb1', M1', _, mb2', M2', b1.chg k2.chg ?_, b2, c1, c2, ?_, ?_, ?_⟩, bel1.trans (k2.chg.below (fun j hj => (a5 j hj).1) bel1.size), by omega⟩, (k2.chg.block X (by omega) fun hF => (a5 X hF).2 rfl).trans kx⟩
  · intro j hj hj2
    rcases hj2 with hj2 | hj2
    · exact a3 j hj2 hj
    · have := a2.lt j hj; have := hj2.1; omega
  · intro j hj hj2
    rcases hj with hj | hj
    · rcases hj2 with hj2 | hj2
      · exact a3 j hj hj2
      · have := a1.lt j hj; have := hj2.1; omega
    · rcases hj2 with hj2 | hj2
      · have := a2.lt j hj2; have := hj.1; omega
      · have := hj.2; have := hj2.1; omega
  · intro j hj
    rcases hj with hj | hj
    · exact a4 j hj
    · have := hj.1; exact ⟨by omega, by omega⟩
  · intro j hj
    rcases hj with hj | hj
    · exact a5 j hj
    · have := hj.1; exact ⟨by omega, by omega⟩
end

/-! ### what one key's entry keeps -/
theorem only_fine {A : Cont} (h : Fine A) (k : List UInt8) : Fine (onlyA A k) := by
  have ht : tot (onlyA A k) ≤ tot A := by
    unfold onlyA
    induction A with
    | nil => exact Nat.le_refl _
    | cons f r ih =>
      have hr : Fine r := ⟨by have := h.tot; unfold tot at *; rw [List.map_cons, List.sum_cons] at this; omega, by have := h.keys; rw [List.length_cons] at this; omega, fun e he => h.kl e (List.mem_cons_of_mem _ he), fun e he => h.vl e (List.mem_cons_of_mem _ he)⟩
      have ih := ih hr
      rw [List.filter_cons]
      split
      · unfold tot at *; rw [List.map_cons, List.map_cons, List.sum_cons, List.sum_cons]; omega
      · unfold tot at *; rw [List.map_cons, List.sum_cons]; omega
  exact ⟨Nat.le_trans ht h.tot, Nat.le_trans (List.length_filter_le _ _) h.keys, fun e he => h.kl e (List.mem_filter.1 he).1, fun e he => h.vl e (List.mem_filter.1 he).1⟩
theorem td_only (A : Cont) (x : Stv) (hk : x.k = 0 ∨ x.k = 1 ∨ x.k = 2) : tdA (onlyA A x.key.data.toList) x = tdA A x := by
  unfold tdA
  rcases hk with h | h | h
  · rw [if_pos h, if_pos h]
    rw [show applyE (onlyA A x.key.data.toList) (vnOf x) = applyE A (vnOf x) from only_applyE A (vnOf x)]
  · have h0 : ¬ x.k = 0 := by omega
    rw [if_neg h0, if_pos h, if_neg h0, if_pos h]
    unfold getA atA
    rw [lsOf_only]
  · have h0 : ¬ x.k = 0 := by omega
    have h1 : ¬ x.k = 1 := by omega
    rw [if_neg h0, if_neg h1, if_pos h, if_neg h0, if_neg h1, if_pos h]
    unfold newestA lastA
    rw [lsOf_only]
theorem next_only (A : Cont) (x : Stv) (hk : x.k = 0 ∨ x.k = 1 ∨ x.k = 2) : nextA (onlyA A x.key.data.toList) x = onlyA (nextA A x) x.key.data.toList := by
  unfold nextA
  rcases hk with h | h | h
  · rw [if_pos h, if_pos h]; exact only_apply A (vnOf x)
  · rw [if_neg (by omega), if_neg (by omega), if_neg (by omega), if_neg (by omega)]
  · rw [if_neg (by omega), if_neg (by omega), if_neg (by omega), if_neg (by omega)]
theorem next_fine {A : Cont} {k : Nat} (h : FineK A k) (hd : (A.map (·.1)).Nodup) (x : Stv) : FineK (nextA A x) (k + 1) := by
  unfold nextA
  split
  · exact applyA_fine h hd _
  · split
    · exact (vacA_fine h _).mono (Nat.le_succ _)
    · exact h.mono (Nat.le_succ _)
theorem td_fine {A : Cont} (h : Fine A) (x : Stv) (hk : x.k = 0 ∨ x.k = 1 ∨ x.k = 2) : TdFine (tdA A x) := by
  have hb : (tdA A x).b.length ≤ 4096 ∧ (tdA A x).p = [] ∧ (tdA A x).l = [] := by
    unfold tdA
    rcases hk with h0 | h0 | h0
    · rw [if_pos h0]; exact ⟨Nat.zero_le _, rfl, rfl⟩
    · rw [if_neg (by omega), if_pos h0]
      refine ⟨?_, rfl, rfl⟩
      show ((getA A x.key.data.toList x.stamp).getD []).length ≤ 4096
      unfold getA atA
      split
      · exact Nat.zero_le _
      · rename_i h1
        have h2 := upV_le (lsOf A x.key.data.toList) x.stamp
        have h3 : vr (lsOf A x.key.data.toList) (upV (lsOf A x.key.data.toList) x.stamp - 1) ∈ lsOf A x.key.data.toList := vr_mem (by omega)
        unfold live
        split
        · exact Nat.zero_le _
        · rename_i l he
          injection he with he
          subst he
          split
          · exact Nat.zero_le _
          · rcases lsOf_in (A := A) (k := x.key.data.toList) with h4 | ⟨e, he, _, h5⟩
            · rw [h4] at h3; cases h3
            · exact h.vl e he _ (by rw [h5]; exact h3)
    · rw [if_neg (by omega), if_neg (by omega), if_pos h0]; exact ⟨Nat.zero_le _, rfl, rfl⟩
  obtain ⟨h1, h2, h3⟩ := hb
  have p1 : (tdA A x).p.length ≤ 4000000000000 := by rw [h2]; exact Nat.zero_le _
  have p2 : ∀ y ∈ (tdA A x).p, y.2.length ≤ 4096 := by rw [h2]; intro y hy; cases hy
  have p3 : (tdA A x).l.length ≤ 4000000000000 := by rw [h3]; exact Nat.zero_le _
  have p4 : ∀ y ∈ (tdA A x).l, y.2.b.length ≤ 4096 := by rw [h3]; intro y hy; cases hy
  exact ⟨h1, p1, p2, p3, p4⟩

/-- The versions of one key out of a list. -/
def ownV (key : ByteArray) (ys : List Vn) : List Vn := ys.filter fun y => y.k.data.toList == key.data.toList
theorem ownV_says (key : ByteArray) (ys : List Vn) (A : Cont) (h : saysV ys = versA A) : saysV (ownV key ys) = versA (onlyA A key.data.toList) := by
  rw [← only_vers, ← h]
  unfold ownV saysV
  rw [List.filter_map]
  rfl
/-- One version laid behind the others. -/
theorem app_own {z : World} {B : Nat} {ys : List Vn} {v : Value} (y : Vn) (ho : OwV z B v ys) (hl : ys.length ≤ 4000000000000) (hB : B ≤ z.heap.size) :
    ∃ a5 c5 w5, (Builtin.append_ #[23, 23] 23 #[v, .slice (some ⟨z.heap.size, 0, none⟩) 1 1]).run Try.prog (z.alloc (.cells #[.string y.k, .int .i64 y.n, .slice y.a y.z.length y.c, .bool y.d] 30)) = .ok (.slice a5 (ys.length + 1) c5) w5 ∧
      OwV w5 B (.slice a5 (ys.length + 1) c5) (ys ++ [y]) ∧ Below B z w5 := by
  obtain ⟨z2, hz2⟩ : ∃ z2, z2 = z.alloc (.cells #[.string y.k, .int .i64 y.n, .slice y.a y.z.length y.c, .bool y.d] 30) := ⟨_, rfl⟩
  have hb2 : Below z.heap.size z z2 := by rw [hz2]; exact (Below.refl _ _).alloc (Nat.le_refl _) _
  have ho2 : OwV z2 B v ys := OwnS.below ho hb2
  have hsrc : Src Try.prog 4 23 (.slice (some ⟨z.heap.size, 0, none⟩) 1 1) 1 (quadV y) z2 := by rw [hz2]; exact srcV_one z y _
  obtain ⟨v5, w5, hrun, ho5, hg5, _⟩ := run_append_S (P := Try.prog) 23 23 23 _ Try.underlying23 infoV rfl ho2 _ 1 _ hsrc (by unfold maxLen; omega) (by omega) (Nat.le_trans hB hb2.size)
  rw [hz2] at hrun
  have ho6 : OwV w5 B v5 (ys ++ [y]) := by
    unfold OwV; rw [List.length_append, celV_append, celV_one]; exact ho5
  obtain ⟨a5, c5, ev, _⟩ := OwnS.open ho6
  rw [List.length_append] at ev
  subst ev
  exact ⟨a5, c5, w5, hrun, ho6, (hb2.mono hB).grown hg5 (Nat.le_trans hB hb2.size) fun j e => (OwnS.inside ho2 j e).1⟩

theorem own_yes {key : ByteArray} {ys : List Vn} {k : Nat} (hk : k < ys.length) (h : (vn ys k).k = key) : ownV key (ys.take (k + 1)) = ownV key (ys.take k) ++ [vn ys k] := by
  unfold ownV
  rw [List.take_succ_eq_append_getElem hk, vn_get hk, List.filter_append]
  congr 1
  rw [List.filter_cons_of_pos (by rw [h]; simp)]; rfl
theorem own_no {key : ByteArray} {ys : List Vn} {k : Nat} (hk : k < ys.length) (h : (vn ys k).k ≠ key) : ownV key (ys.take (k + 1)) = ownV key (ys.take k) := by
  unfold ownV
  rw [List.take_succ_eq_append_getElem hk, vn_get hk, List.filter_append]
  have h2 : ¬ ((vn ys k).k.data.toList == key.data.toList) = true := fun e => h (same_ba (by simpa using e))
  rw [List.filter_cons_of_neg (by exact h2)]; simp
theorem vers_z {A : Cont} {ys : List Vn} (h : Fine A) (hs : saysV ys = versA A) : ∀ x ∈ ys, x.z.length ≤ 4096 := fun x hx => by
  have h1 : (x.k.data.toList, verOf x) ∈ versA A := by rw [← hs]; exact List.mem_map.2 ⟨x, hx, rfl⟩
  obtain ⟨e, he, h2⟩ := List.mem_flatMap.1 h1
  obtain ⟨l, hl, h3⟩ := List.mem_map.1 h2
  have h4 : l = verOf x := (Prod.mk.inj h3).2
  have := h.vl e he l hl
  rw [h4] at this; exact this
theorem vers_len {A : Cont} {ys : List Vn} (h : Fine A) (hs : saysV ys = versA A) : ys.length ≤ 4000000000000 := by
  have h1 := congrArg List.length hs
  rw [versA_len] at h1
  unfold saysV at h1
  rw [List.length_map] at h1
  rw [h1]; exact h.tot
/-- The versions of the first of two. -/
theorem Duo.vers {w z : World} {s1 s2 : Nat} {A1 A2 : Cont} (h : Duo w z s1 s2 A1 A2) (hf : Fine A1) : Calls Try.prog 15 #[.pointer (some ⟨s1, 0, none⟩)] z fun e z' => ∃ a n c ys, e = .returned (.slice a n c) ∧ n = ys.length ∧ RowV z' (.slice a n c) ys ∧ saysV ys = versA A1 ∧ Below z.heap.size z z' := by
  obtain ⟨F, mb, M, hs, rfl, _⟩ := h.one
  refine (versions_any hs hf).mono ?_
  rintro e z' ⟨⟨v, ys, rfl, ho, hv, hsy⟩, hb⟩
  obtain ⟨a, c, rfl, _⟩ := OwnS.open ho
  exact ⟨a, _, c, ys, rfl, rfl, ⟨OwnS.mono ho (Nat.zero_le _), fun y hy => (hv y hy).mono (Nat.zero_le _)⟩, hsy, hb⟩

/-- An append whose run is known, for the walk. -/
theorem wpList_append_run {P : Program} {w : World} {ops : Array Oper} {rest : List Oper} {o : Oper} {a : Act} {Q : Exit → Act → World → Prop} (hgd : o.guard = none) (s x : Operand) (t : TypeId)
    (ho : o.op = .call { callee := .builtin .append, args := #[s, x], argTypes := #[t, t] }) (v y v' : Value) (w' : World) (hs : a.eval s = v) (hx : a.eval x = y)
    (hrun : (Builtin.append_ #[t, t] o.type #[v, y]).run P w = .ok v' w') (h : wpList P ops Q rest (a.put o.dst v') w') : wpList P ops Q (o :: rest) a w := by
  refine wpList_plain hgd fun K hK => ?_
  exact wp_append_run s x t ho v y v' w' hs hx hrun (hK _ _ h)

end Go.Proofs.Ythaknohnccmfoaa
