/- The document's row of frames, walked; slices of bytes that lie apart from one another. -/
import Derived.Test.YtadceolgekbgmabFl1
import Derived.Test.YtadceolgekbgmabFv1
namespace Go.Proofs.Ytadceolgekbgmab
open Go.RowKit Go.Shelf

set_option maxRecDepth 100000 in
set_option maxHeartbeats 800000 in
theorem rrow_any (a : Option Addr) (n cap : Nat) (A : Nat → Pc) (w : World) (hr : RowP w a n A) (hok : ∀ i, i < n → PcOk w (A i)) (hl : ∀ i, i < n → (A i).p.length ≤ 65536) (hn : n ≤ 1000) :
    Calls Try.prog 19 #[.slice a n cap] w fun e w' => (∃ r, e = .returned r ∧ OwnB w' w.heap.size r (rowOf (payP n A))) ∧ Below w.heap.size w w' := by
  have hb0 : Below w.heap.size w (w.alloc (.cells #[] 5)) := (Below.refl _ _).alloc (Nat.le_refl _) _
  have ho0 := own_empty w
  go_enter Try.func19, Try.ntmps19
  go_wp2
  go_loopw [3, 4] (fun r i wr => ∃ k : Nat, k ≤ n ∧ i = .int .i64 (k : Int) ∧ OwnB wr w.heap.size r (rowOf (payP k A)) ∧ Below w.heap.size w wr ∧ Hid ((rowOf (payP k A)).length ≤ k * 65545)) (fun _ i _ => n - (intOf i).toNat)
  case atStart => exact ⟨0, by omega, rfl, ho0, hb0, by show _ ≤ _; simp [payP, rowOf]⟩
  case round =>
    obtain ⟨k, hk, rfl, hown, hbl, hL⟩ := hrel
    clear ho0 hb0
    by_cases hlt : k < n
    · have hki : (k : Int) < (n : Int) := by omega
      obtain ⟨b0, o0, rfl, hb0, hcell⟩ := (hr.below hbl).here hlt
      have hk1 := (hok k hlt).below hbl
      have hk2 := hl k hlt
      have hfr := rframe_any (A k).a (A k).c (A k).p wr hk1.row hk1.all hk2 hk1.none
      have HS := hide_it (show rowOf (payP (k + 1) A) = rowOf (payP k A) ++ frm (A k).p by rw [payP_succ, rowOf_snoc])
      have HF9 := hide_it (frm_len (A k).p)
      have hz := hbl.size
      have HL2 : Hid ((rowOf (payP (k + 1) A)).length ≤ (k + 1) * 65545) := by
        show _ ≤ _
        have h1 := congrArg List.length HS.out
        rw [List.length_append, frm_len] at h1
        have := hL.out
        omega
      have hbound : (rowOf (payP k A)).length ≤ 65545000 := by
        have := hL.out
        have : k * 65545 ≤ 1000 * 65545 := Nat.mul_le_mul_right _ (by omega)
        omega
      clear hk1
      generalize A k = P at *
      generalize frm P.p = F at *
      go_wp2_with (go_at_call 20; refine hfr.mono ?_)
      rintro e w1 ⟨⟨v1, rfl, ho1⟩, hb1⟩
      obtain ⟨p1, q1, hv1, hp1, _, _, hn1⟩ := ho1.row
      subst hv1
      have hownW := hown.below hb1
      have hbw1 := hbl.trans (hb1.mono hz)
      have hz1 := hbw1.size
      have hFl : F.length ≤ 65545 := by have := HF9.out; omega
      clear hfr hown ho1
      go_wp2_with (at_builtin; refine wpList_append_row _ rfl _ _ rfl w.heap.size _ _ rfl hownW p1 q1 F rfl hp1 hn1 (by omega) hz1 ?_; intro v2 w2 ho2 hg2 hat2)
      have hbw2 : Below w.heap.size w w2 := hbw1.grown hg2 hz1 (fun j e => hownW.ge e)
      go_roundw
      case rel => exact ⟨k + 1, by omega, by go_num, by rw [HS.out]; exact ho2, hbw2, HL2⟩
      case measure => simp [intOf]; omega
    · have hkn : k = n := by omega
      subst hkn
      go_wp2
      go_ret
      exact ⟨⟨_, rfl, hown⟩, hbl⟩

/-- Slices of bytes of one's own from block B on, no two of which meet. -/
structure Apt (w : World) (B : Nat) (ss : List (Value × List Nat)) : Prop where
  own : ∀ (i : Nat) (x : Value × List Nat), ss[i]? = some x → OwnB w B x.1 x.2
  apart : ∀ (i j : Nat) (x y : Value × List Nat), ss[i]? = some x → ss[j]? = some y → i ≠ j → ∀ b, x.1.ownBlock = some b → y.1.ownBlock ≠ some b

theorem Apt.nil (w : World) (B : Nat) : Apt w B [] := ⟨fun i x h => by simp at h, fun i j x y h => by simp at h⟩
theorem Apt.below {w w' : World} {B : Nat} {ss : List (Value × List Nat)} (h : Apt w B ss) (hb : Below w.heap.size w w') : Apt w' B ss := ⟨fun i x hx => (h.own i x hx).below hb, h.apart⟩
/-- One more, in new memory. -/
theorem Apt.push {w w' : World} {B : Nat} {ss : List (Value × List Nat)} {v : Value} {zs : List Nat} (h : Apt w B ss) (hb : Below w.heap.size w w') (hB : B ≤ w.heap.size) (ho : OwnB w' w.heap.size v zs) : Apt w' B (ss ++ [(v, zs)]) := by
  have key : ∀ i x, (ss ++ [(v, zs)])[i]? = some x → (i < ss.length ∧ ss[i]? = some x) ∨ (i = ss.length ∧ x = (v, zs)) := fun i x hx => by
    by_cases hi : i < ss.length
    · rw [List.getElem?_append_left hi] at hx; exact .inl ⟨hi, hx⟩
    · rw [List.getElem?_append_right (by omega)] at hx
      have h0 : i - ss.length = 0 := by
        have := (List.getElem?_eq_some_iff.1 hx).1
        simp at this
        omega
      rw [h0] at hx
      exact .inr ⟨by omega, by simpa using hx.symm⟩
  refine ⟨fun i x hx => ?_, fun i j x y hx hy hij b hb1 hb2 => ?_⟩
  · rcases key i x hx with ⟨_, h1⟩ | ⟨_, rfl⟩
    · exact (h.own i x h1).below hb
    · exact ho.mono hB
  · rcases key i x hx with ⟨_, h1⟩ | ⟨h1, rfl⟩ <;> rcases key j y hy with ⟨_, h2⟩ | ⟨h2, rfl⟩
    · exact h.apart i j x y h1 h2 hij b hb1 hb2
    · have := (h.own i x h1).inside b hb1
      have := ho.ge hb2
      omega
    · have := (h.own j y h2).inside b hb2
      have := ho.ge hb1
      omega
    · omega
/-- .. where what is no row of bytes may have turned. -/
theorem Apt.push' {w w' : World} {B : Nat} {ss : List (Value × List Nat)} {v : Value} {zs : List Nat} (h : Apt w B ss) (hk : ∀ (j : Nat) (cur : Array Value), w.heap[j]? = some (Obj.cells cur 5 (0, 0)) → w'.heap[j]? = w.heap[j]?) (hB : B ≤ w.heap.size) (ho : OwnB w' w.heap.size v zs) : Apt w' B (ss ++ [(v, zs)]) := by
  have key : ∀ i x, (ss ++ [(v, zs)])[i]? = some x → (i < ss.length ∧ ss[i]? = some x) ∨ (i = ss.length ∧ x = (v, zs)) := fun i x hx => by
    by_cases hi : i < ss.length
    · rw [List.getElem?_append_left hi] at hx; exact .inl ⟨hi, hx⟩
    · rw [List.getElem?_append_right (by omega)] at hx
      have h0 : i - ss.length = 0 := by
        have := (List.getElem?_eq_some_iff.1 hx).1
        simp at this
        omega
      rw [h0] at hx
      exact .inr ⟨by omega, by simpa using hx.symm⟩
  refine ⟨fun i x hx => ?_, fun i j x y hx hy hij b hb1 hb2 => ?_⟩
  · rcases key i x hx with ⟨_, h1⟩ | ⟨_, rfl⟩
    · refine (h.own i x h1).heap' fun j hj => ?_
      rcases (h.own i x h1).2 with ⟨e, _⟩ | ⟨g, cap, cur, e, _, hh, _⟩
      · rw [e] at hj; cases hj
      · rw [e] at hj; cases hj; exact hk g cur hh
    · exact ho.mono hB
  · rcases key i x hx with ⟨_, h1⟩ | ⟨h1, rfl⟩ <;> rcases key j y hy with ⟨_, h2⟩ | ⟨h2, rfl⟩
    · exact h.apart i j x y h1 h2 hij b hb1 hb2
    · have := (h.own i x h1).inside b hb1
      have := ho.ge hb2
      omega
    · have := (h.own j y h2).inside b hb2
      have := ho.ge hb1
      omega
    · omega
/-- One of them is written, or grows. -/
theorem Apt.upd {w w' : World} {B : Nat} {ss : List (Value × List Nat)} {k : Nat} {v v' : Value} {zs zs' : List Nat} (h : Apt w B ss) (hk : ss[k]? = some (v, zs)) (hg : w.grownBy w' v.ownBlock) (ho : OwnB w' B v' zs') (ha : v'.ownBlock = v.ownBlock ∨ ∃ j, v'.ownBlock = some j ∧ w.heap.size ≤ j) : Apt w' B (ss.set k (v', zs')) := by
  have hkl := (List.getElem?_eq_some_iff.1 hk).1
  have key : ∀ i x, (ss.set k (v', zs'))[i]? = some x → (i ≠ k ∧ ss[i]? = some x) ∨ (i = k ∧ x = (v', zs')) := fun i x hx => by
    by_cases hi : i = k
    · subst hi
      rw [List.getElem?_set_self hkl] at hx
      exact .inr ⟨rfl, by simpa using hx.symm⟩
    · rw [List.getElem?_set_ne (fun e => hi e.symm)] at hx
      exact .inl ⟨hi, hx⟩
  have far : ∀ i x, i ≠ k → ss[i]? = some x → ∀ b, x.1.ownBlock = some b → v'.ownBlock ≠ some b := fun i x hi hx b hb e => by
    rcases ha with h1 | ⟨j, h1, h2⟩
    · exact h.apart i k x (v, zs) hx hk hi b hb (h1.symm.trans e)
    · rw [h1] at e
      cases e
      have := (h.own i x hx).inside b hb
      omega
  refine ⟨fun i x hx => ?_, fun i j x y hx hy hij b hb1 hb2 => ?_⟩
  · rcases key i x hx with ⟨h1, h2⟩ | ⟨_, rfl⟩
    · exact (h.own i x h2).keep hg (fun b hb e => h.apart i k x (v, zs) h2 hk h1 b hb e)
    · exact ho
  · rcases key i x hx with ⟨h1, h2⟩ | ⟨h1, rfl⟩ <;> rcases key j y hy with ⟨h3, h4⟩ | ⟨h3, rfl⟩
    · exact h.apart i j x y h2 h4 hij b hb1 hb2
    · exact far i x h1 h2 b hb1 hb2
    · exact far j y h3 h4 b hb2 hb1
    · omega
/-- What changes no row of bytes. -/
theorem Apt.keep {w w' : World} {B : Nat} {ss : List (Value × List Nat)} (h : Apt w B ss) (hk : ∀ (j : Nat) (cur : Array Value), w.heap[j]? = some (Obj.cells cur 5 (0, 0)) → w'.heap[j]? = w.heap[j]?) : Apt w' B ss :=
  ⟨fun i x hx => (h.own i x hx).heap' fun j hj => by
    rcases (h.own i x hx).2 with ⟨e, _⟩ | ⟨g, cap, cur, e, _, hh, _⟩
    · rw [e] at hj; cases hj
    · rw [e] at hj; cases hj; exact hk g cur hh, h.apart⟩

/-- Slices apart, and beside them a list of some of them in a box. -/
structure StL (w0 : World) (LB B1 : Nat) (ve : Value) (ps : List Value) (ss : List (Value × List Nat)) (W : World) : Prop where
  apt : Apt W w0.heap.size ss
  box : Boxed W LB 36 ve
  row : W.ownsRow B1 22 1 ve ps.length ps
  bel : Below w0.heap.size w0 W
theorem ownsRow_blk {w : World} {base : Nat} {e : TypeId} {sz : Nat} {v : Value} {n : Nat} {xs : List Value} (h : w.ownsRow base e sz v n xs) {j : Nat} (hj : v.ownBlock = some j) : base ≤ j ∧ j < w.heap.size ∧ ∃ cur, w.heap[j]? = some (.cells cur e (0, 0)) := by
  rcases h.2 with ⟨rfl, _⟩ | ⟨g, cap, cur, rfl, h3, hh, h4⟩
  · cases hj
  · cases hj; exact ⟨h3, (Array.getElem?_eq_some_iff.1 hh).1, cur, hh⟩
theorem ownsRow_still {w w' : World} {base : Nat} {e : TypeId} {sz : Nat} {v : Value} {n : Nat} {xs : List Value} (h : w.ownsRow base e sz v n xs) (hk : ∀ j, v.ownBlock = some j → w'.heap[j]? = w.heap[j]?) : w'.ownsRow base e sz v n xs := by
  refine ⟨h.1, ?_⟩
  rcases h.2 with h2 | ⟨g, cap, cur, rfl, h3, hh, h4⟩
  · exact .inl h2
  · exact .inr ⟨g, cap, cur, rfl, h3, (hk g rfl).trans hh, h4⟩
theorem StL.below {w0 W W' : World} {LB B1 : Nat} {ve : Value} {ps : List Value} {ss : List (Value × List Nat)} (h : StL w0 LB B1 ve ps ss W) (hb : Below W.heap.size W W') : StL w0 LB B1 ve ps ss W' :=
  ⟨h.apt.below hb, h.box.kept (grown_none hb) (by simp), ownsRow_still h.row (fun j hj => hb.block j (ownsRow_blk h.row hj).2.1), h.bel.trans (hb.mono h.bel.size)⟩
theorem StL.upd {w0 W W' : World} {LB B1 : Nat} {ve : Value} {ps : List Value} {ss : List (Value × List Nat)} {k : Nat} {v v' : Value} {zs zs' : List Nat} (h : StL w0 LB B1 ve ps ss W) (hk : ss[k]? = some (v, zs)) (hg : W.grownBy W' v.ownBlock) (ho : OwnB W' w0.heap.size v' zs') (ha : v'.ownBlock = v.ownBlock ∨ ∃ j, v'.ownBlock = some j ∧ W.heap.size ≤ j) : StL w0 LB B1 ve ps (ss.set k (v', zs')) W' := by
  have hv := h.apt.own k _ hk
  have hne : ∀ (j : Nat) (cur : Array Value) (t : TypeId), W.heap[j]? = some (Obj.cells cur t (0, 0)) → t ≠ 5 → some j ≠ v.ownBlock := fun j cur t hc ht e => by
    obtain ⟨_, _, cur', hc'⟩ := ownsRow_blk hv e.symm
    rw [hc] at hc'
    cases hc'
    exact ht rfl
  refine ⟨h.apt.upd hk hg ho ha, h.box.kept hg (hne LB _ _ h.box (by decide)), ownsRow_still h.row (fun j hj => ?_), h.bel.grown hg h.bel.size (fun j e => hv.ge e)⟩
  obtain ⟨_, h1, cur, hc⟩ := ownsRow_blk h.row hj
  exact hg.block j h1 (hne j cur _ hc (by decide))

theorem StL.grown {w0 W W' : World} {LB B1 : Nat} {ve : Value} {ps : List Value} {ss : List (Value × List Nat)} {r : Option Nat} (h : StL w0 LB B1 ve ps ss W) (hg : W.grownBy W' r) (hr : ∀ j, r = some j → w0.heap.size ≤ j ∧ ∃ o : Obj, W.heap[j]? = some o ∧ o.isCells = false) : StL w0 LB B1 ve ps ss W' := by
  have hr2 : ∀ j, r = some j → ∃ o : Obj, W.heap[j]? = some o ∧ o.isCells = false := fun j e => (hr j e).2
  refine ⟨h.apt.keep fun j cur hc => grownBy_keeps_cells hg hr2 hc rfl, boxed_own (β := Unit) _ _ (fun _ => ve) () W W' r h.box hg hr2, ownsRow_still h.row (fun j hj => ?_), h.bel.grown hg h.bel.size (fun j e => (hr j e).1)⟩
  obtain ⟨_, _, cur, hc⟩ := ownsRow_blk h.row hj
  exact grownBy_keeps_cells hg hr2 hc rfl
/-- What an append to a list in a box leaves as it is. -/
theorem app_keep {W w1 : World} {LB : Nat} {ve v' : Value} {tmp : Obj} (hg : (W.alloc tmp).grownBy w1 ve.ownBlock) {j : Nat} (hj : j < W.heap.size) (h1 : j ≠ LB) (h2 : ve.ownBlock ≠ some j) : (w1.setCell ⟨LB, 0, none⟩ v').heap[j]? = W.heap[j]? := by
  rw [Below.heap_setCell _ _ _ _ (by simpa using h1), hg.block j (by simp; omega) (fun e => h2 e.symm)]
  exact Below.heap_alloc _ _ _ hj

end Go.Proofs.Ytadceolgekbgmab
