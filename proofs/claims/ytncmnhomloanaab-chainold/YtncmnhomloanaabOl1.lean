/- A chain that goes on while it is walked through: what the law on old walks keeps. -/
import Derived.Test.YtncmnhomloanaabHq1
import Derived.Test.YtncmnhomloanaabHn6
import Derived.Test.YtncmnhomloanaabRg2
import Derived.Test.YtncmnhomloanaabHi1
namespace Go.Proofs.Ytncmnhomloanaab
open Go.RowKit Go.Shelf

/-- The chain's first blocks, and all that is made from E on. -/
def Gr (F0 : Nat → Prop) (E j : Nat) : Prop := F0 j ∨ E ≤ j
/-- The link that the law adds in the midst. -/
def newL (more : Int) : Lk := ⟨more, ⟨#[110, 101, 119]⟩, false⟩
/-- What the chain holds behind so many rounds. -/
def stY (X : List Lk) (h more : Int) (k : Nat) : List Lk := if k = 0 then X else addL (pruL X h) (newL more)
theorem stY_len (X : List Lk) (h more : Int) (k : Nat) : (stY X h more k).length ≤ X.length + 1 := by
  unfold stY
  split
  · omega
  · have := (addL_len (pruL X h) (newL more)).2
    have := pru_le X h
    omega
where
  pru_le (X : List Lk) (h : Int) : (pruL X h).length ≤ X.length := by unfold pruL; rw [List.length_drop]; omega

/-- What one round does to the chain: Prune, then Add; the links that lay lie where they lay. -/
theorem turn_any {W : World} {F0 : Nat → Prop} {E p cap : Nat} {a : Option Addr} {X : List Lk} (hn : Hn W F0 p (.slice a X.length cap) X) (hp : F0 p) (hl : X.length ≤ 3900000000000) (hE : E ≤ W.heap.size) (h more : Int) (hm : more ≤ 9223372036854775807) :
    Calls Try.prog 9 #[.pointer (some ⟨p, 0, none⟩), .int .i64 h] W fun e w1 => (∃ z, e = .returned z) ∧ Chg F0 W w1 ∧
      Calls Try.prog 10 #[.pointer (some ⟨p, 0, none⟩), lkV (newL more)] w1 fun e w2 => (∃ z, e = .returned z) ∧ RowL w2 a X ∧ (∃ v, Hn w2 (Gr F0 E) p v (addL (pruL X h) (newL more))) ∧ Chg F0 W w2 := by
  have up : ∀ {w w' : World} {F : Nat → Prop} {v : Value} {Y : List Lk}, Hn w' (upto F w w') p v Y → (∀ j, F j → Gr F0 E j) → E ≤ w.heap.size → Hn w' (Gr F0 E) p v Y := fun h1 h2 h3 => h1.mono fun j hj => by
    rcases hj with hj | hj
    · exact h2 j hj
    · exact .inr (Nat.le_trans h3 hj.1)
  refine (prune_cases hn (by omega) h).mono fun e w1 ⟨he, hc⟩ => ⟨⟨_, he⟩, ?_⟩
  rcases hc with ⟨h0, hb⟩ | hmv
  · refine ⟨.new hb, ?_⟩
    have e1 : pruL X h = X := by unfold pruL; rw [h0]; rfl
    rw [e1]
    refine (add_any (hn.below hb) (newL more) hm (by omega)).mono fun e w2 ⟨he, k⟩ => ⟨⟨_, he⟩, k.old a cap rfl, ?_, (Chg.new (S := F0) hb).trans k.chg fun _ _ hj => hj⟩
    obtain ⟨v, hv⟩ := k.hn
    exact ⟨v, up hv (fun _ hj => .inl hj) (Nat.le_trans hE hb.size)⟩
  · obtain ⟨v', hv, hnew⟩ := hmv.hn
    have hs := hmv.chg.size
    have hple := stY_len.pru_le X h
    have c1 : Chg F0 W w1 := hmv.chg.mono fun j _ hj => hj ▸ hp
    refine ⟨c1, ?_⟩
    obtain ⟨a', c', ev, hrow, _, _, _, hob⟩ := hn.row
    cases ev
    have hap : ∀ g o, a = some ⟨g, o, none⟩ → g ≠ p := fun g o e e2 => by
      obtain ⟨cur, h2⟩ := OwnS.type hn.own ((hob g).2 ⟨o, e⟩)
      rw [e2, hn.blk] at h2; cases h2
    have hlt : ∀ g o, a = some ⟨g, o, none⟩ → g < W.heap.size := fun g o e => (OwnS.inside hn.own g ((hob g).2 ⟨o, e⟩)).2
    have hr1 : RowL w1 a X := hrow.keep fun g o e => hmv.chg.block g (hlt g o e) (hap g o e)
    refine (add_any hv.own_blocks (newL more) hm (by omega)).mono fun e w2 ⟨he, k⟩ => ⟨⟨_, he⟩, hr1.keep fun g o e => k.chg.block g (Nat.lt_of_lt_of_le (hlt g o e) hs) fun hj => ?_, ?_, c1.trans k.chg fun j hjl hj => ?_⟩
    · rcases hj with hj | hj
      · exact hap g o e hj
      · have := hnew g hj; have := hlt g o e; omega
    · obtain ⟨v, hv2⟩ := k.hn
      refine ⟨v, up hv2 (fun j hj => ?_) (by omega)⟩
      rcases hj with hj | hj
      · exact .inl (hj ▸ hp)
      · exact .inr (Nat.le_trans hE (hnew j hj))
    · rcases hj with hj | hj
      · exact hj ▸ hp
      · have := hnew j hj; omega

/-- What is fixed: where the law's boxes lie. -/
structure OlC (w : World) (F0 : Nat → Prop) (E p bh bm br bc bb ba bq : Nat) (a : Option Addr) (vb : Value) : Prop where
  box : ∀ b, (b = bh ∨ b = bm ∨ b = br ∨ b = bc ∨ b = bb ∨ b = ba ∨ b = bq) → w.heap.size ≤ b ∧ b < E ∧ ¬ F0 b ∧ ∀ o, a ≠ some ⟨b, o, none⟩
  f0 : ∀ j, F0 j → w.heap.size ≤ j ∧ j < E
  fp : F0 p
  vbo : ∀ j, vb.ownBlock = some j → j < E ∧ ¬ F0 j
  ne : bh ≠ ba ∧ bm ≠ ba ∧ br ≠ ba ∧ bc ≠ ba ∧ bb ≠ ba ∧ bq ≠ ba
  vba : vb.ownBlock ≠ some ba
/-- What stands behind k rounds of the first walk. -/
structure Ol (w W : World) (F0 : Nat → Prop) (E p bh bm br bc bb ba bq : Nat) (h more : Int) (X : List Lk) (a : Option Addr) (cap : Nat) (vb : Value) (k : Nat) : Prop where
  cH : Boxed W bh 3 (.int .i64 h)
  cM : Boxed W bm 3 (.int .i64 more)
  cR : Boxed W br 4 (.bool false)
  cC : Boxed W bc 23 (.pointer (some ⟨p, 0, none⟩))
  cB : Boxed W bb 25 vb
  cA : Boxed W ba 3 (.int .i64 (k : Int))
  cQ : Boxed W bq 23 (.pointer (some ⟨p, 0, none⟩))
  ob : OwnS W 0 32 3 vb X.length (celL X.reverse)
  hn : ∃ v, Hn W (Gr F0 E) p v (stY X h more k)
  h0 : k = 0 → Hn W F0 p (.slice a X.length cap) X
  bel : Below w.heap.size w W
section
variable {w W W' : World} {F0 : Nat → Prop} {E p bh bm br bc bb ba bq : Nat} {h more : Int} {X : List Lk} {a : Option Addr} {cap k : Nat} {vb : Value}
theorem Ol.grown (s : Ol w W F0 E p bh bm br bc bb ba bq h more X a cap vb k) {r : Option Nat} (hg : W.grownBy W' r) (hr : ∀ j, r = some j → w.heap.size ≤ j ∧ ∃ o : Obj, W.heap[j]? = some o ∧ o.isCells = false) : Ol w W' F0 E p bh bm br bc bb ba bq h more X a cap vb k := by
  have ne : ∀ {j cur t}, W.heap[j]? = some (.cells cur t (0, 0)) → some j ≠ r := fun {j cur t} hj e => by
    obtain ⟨_, o, h1, h2⟩ := hr j e.symm
    rw [hj] at h1; cases h1; cases h2
  obtain ⟨v, hv⟩ := s.hn
  refine ⟨s.cH.kept hg (ne s.cH), s.cM.kept hg (ne s.cM), s.cR.kept hg (ne s.cR), s.cC.kept hg (ne s.cC), s.cB.kept hg (ne s.cB), s.cA.kept hg (ne s.cA), s.cQ.kept hg (ne s.cQ), OwnS.keep s.ob fun j hj => ?_, ⟨v, ⟨(hg.block p hv.lt (ne hv.blk)).trans hv.blk, OwnS.keep hv.own fun j hj => ?_, hv.good, hv.fp, hv.fv⟩⟩, fun e => ?_, s.bel.grown hg s.bel.size fun j e => (hr j e).1⟩
  · obtain ⟨cur, h2⟩ := OwnS.type s.ob hj
    exact hg.block j (OwnS.inside s.ob j hj).2 (ne h2)
  · obtain ⟨cur, h2⟩ := OwnS.type hv.own hj
    exact hg.block j (OwnS.inside hv.own j hj).2 (ne h2)
  · have hq := s.h0 e
    exact ⟨(hg.block p hq.lt (ne hq.blk)).trans hq.blk, OwnS.keep hq.own fun j hj => by
      obtain ⟨cur, h2⟩ := OwnS.type hq.own hj
      exact hg.block j (OwnS.inside hq.own j hj).2 (ne h2), hq.good, hq.fp, hq.fv⟩
theorem Ol.from {B : Nat} (hB : w.heap.size ≤ B) : OwnFrom B (fun (pre : List Lk) W => Ol w W F0 E p bh bm br bc bb ba bq h more X a cap vb pre.length) := fun _ _ _ _ s hg hr => s.grown hg fun j e => ⟨Nat.le_trans hB (hr j e).1, (hr j e).2⟩
/-- What a round leaves: the chain as it is now, the number of links one more. -/
theorem Ol.tick (s : Ol w W F0 E p bh bm br bc bb ba bq h more X a cap vb k) (c : OlC w F0 E p bh bm br bc bb ba bq a vb) (hc : Chg F0 W W') {k' : Nat} (hn : ∃ v, Hn W' (Gr F0 E) p v (stY X h more k')) (h0 : k' ≠ 0) : Ol w (W'.setCell ⟨ba, 0, none⟩ (.int .i64 (k' : Int))) F0 E p bh bm br bc bb ba bq h more X a cap vb k' := by
  have off : ∀ {b t u}, Boxed W b t u → (b = bh ∨ b = bm ∨ b = br ∨ b = bc ∨ b = bb ∨ b = ba ∨ b = bq) → Boxed W' b t u := fun hb hm => by
    have := c.box _ hm
    exact (hc.block _ hb.lt fun e => this.2.2.1 e).trans hb
  obtain ⟨n1, n2, n3, n4, n5, n6⟩ := c.ne
  obtain ⟨v, hv⟩ := hn
  have hb := c.box ba (by simp)
  have ob' : OwnS W' 0 32 3 vb X.length (celL X.reverse) := OwnS.keep s.ob fun j hj => hc.block j (OwnS.inside s.ob j hj).2 fun e => (c.vbo j hj).2 e
  refine ⟨(off s.cH (by simp)).other n1 _, (off s.cM (by simp)).other n2 _, (off s.cR (by simp)).other n3 _, (off s.cC (by simp)).other n4 _, (off s.cB (by simp)).other n5 _, (off s.cA (by simp)).set _, (off s.cQ (by simp)).other n6 _, OwnS.keep ob' fun j hj => Below.heap_setCell _ _ _ _ (fun e => c.vba (by rw [hj]; exact congrArg some e)), ⟨v, ?_⟩, fun e => absurd e h0, (s.bel.trans (hc.below (fun j hj => (c.f0 j hj).1) s.bel.size)).setCell (p := ⟨ba, 0, none⟩) hb.1 _⟩
  refine hv.keep fun j _ hj => Below.heap_setCell _ _ _ _ (fun e => ?_)
  have e2 : j = ba := e
  subst e2
  rcases hj with hj | hj
  · exact hb.2.2.1 hj
  · omega
/-- What the walk through the older links wants of a round. -/
theorem kept_row {W W' : World} (c : OlC w F0 E p bh bm br bc bb ba bq a vb) (hc : Chg F0 W W') (hr : RowL W a X → RowL W' a X) (u : Value) : KpL a X W (W'.setCell ⟨ba, 0, none⟩ u) :=
  ⟨by simpa using hc.size, fun r => (hr r).keep fun g o e => Below.heap_setCell _ _ _ _ fun e2 => (c.box ba (by simp)).2.2.2 o (by rw [e]; exact congrArg some (by exact congrArg (fun z => (⟨z, o, none⟩ : Addr)) e2))⟩
theorem kept_from {W W' : World} {B : Nat} (c : OlC w F0 E p bh bm br bc bb ba bq a vb) (hB : E ≤ B) (hc : Chg F0 W W') (u : Value) : KeepsFrom B W (W'.setCell ⟨ba, 0, none⟩ u) :=
  KeepsFrom.trans ⟨hc.size, fun j o hj hk _ => (hc.block j (Array.getElem?_eq_some_iff.1 hk).1 fun e => by have := (c.f0 j e).2; omega).trans hk⟩ ((KeepsOthers.setCell W' _ u).from B)
end

end Go.Proofs.Ytncmnhomloanaab
