/- Which blocks a call changes; slices of a holder's own, at whatever place of their block and of whatever elements: read, laid behind, cut at both ends, written over. -/
import Derived.WalkKit
import Derived.WalkSpells
import Derived.WalkLawsBesides
import Derived.Maps.AppendAt
import Derived.Laws.AppendOwnNone
import Derived.Deep.AppendSrc
import Derived.Deep.DeepAppendWide
import Derived.OwnWalk
import Derived.Below
import Derived.Tactics
import Derived.Deep.OwnRows
import Derived.OpenShut
namespace Go.Proofs.Ytbafjkanbbcbgaa
open Go.RowKit

/-! ### which blocks are changed -/

/-- Blocks of S alone are changed, and new ones made. -/
structure Chg (S : Nat → Prop) (w w' : World) : Prop where
  os : w'.os = w.os
  tape : w'.tape = w.tape
  output : w'.output = w.output
  size : w.heap.size ≤ w'.heap.size
  block : ∀ k, k < w.heap.size → ¬ S k → w'.heap[k]? = w.heap[k]?

section
variable {S T : Nat → Prop} {w w1 w2 : World}
theorem Chg.refl (S : Nat → Prop) (w : World) : Chg S w w := ⟨rfl, rfl, rfl, Nat.le_refl _, fun _ _ _ => rfl⟩
theorem Chg.mono (h : Chg S w w1) (hs : ∀ k, k < w.heap.size → S k → T k) : Chg T w w1 := ⟨h.os, h.tape, h.output, h.size, fun k hk ht => h.block k hk fun s => ht (hs k hk s)⟩
theorem Chg.trans (h : Chg S w w1) (k : Chg T w1 w2) (ht : ∀ j, j < w.heap.size → T j → S j) : Chg S w w2 :=
  ⟨k.os.trans h.os, k.tape.trans h.tape, k.output.trans h.output, Nat.le_trans h.size k.size, fun j hj hs =>
    (k.block j (Nat.lt_of_lt_of_le hj h.size) fun t => hs (ht j hj t)).trans (h.block j hj hs)⟩
theorem Chg.of_below {B : Nat} (h : Below B w w1) (hb : ∀ k, k < w.heap.size → ¬ S k → k < B) : Chg S w w1 := ⟨h.os, h.tape, h.output, h.size, fun k hk hs => h.block k (hb k hk hs)⟩
theorem Chg.new (h : Below w.heap.size w w1) : Chg S w w1 := .of_below h fun _ hk _ => hk
theorem Chg.below {B : Nat} (h : Chg S w w1) (hb : ∀ k, S k → B ≤ k) (hB : B ≤ w.heap.size) : Below B w w1 :=
  ⟨h.os, h.tape, h.output, h.size, fun k hk => h.block k (Nat.lt_of_lt_of_le hk hB) fun s => by have := hb k s; omega⟩
theorem Chg.of_grown {r : Option Nat} (h : w.grownBy w1 r) (hr : ∀ k, k < w.heap.size → r = some k → S k) : Chg S w w1 :=
  ⟨h.os, h.tape, h.output, h.size, fun k hk hs => h.block k hk fun e => hs (hr k hk e.symm)⟩
theorem Chg.grown {r : Option Nat} (h : Chg S w w1) (hr : ∀ k, S k → r = some k) : w.grownBy w1 r := ⟨h.os, h.tape, h.output, h.size, fun k hk hne => h.block k hk fun s => hne (hr k s).symm⟩
theorem Chg.drew (h : Chg S w w1) : Chg S w w1.drew := ⟨h.os, h.tape, h.output, h.size, h.block⟩
theorem Chg.drewN (h : Chg S w w1) (q : Nat) : Chg S w (w1.drewN q) := by
  induction q with
  | zero => exact h
  | succ q ih => exact ih.drew
theorem Chg.alloc (h : Chg S w w1) (o : Obj) : Chg S w (w1.alloc o) :=
  ⟨h.os, h.tape, h.output, by have := h.size; simp; omega, fun k hk hs => (Below.heap_alloc w1 o k (Nat.lt_of_lt_of_le hk h.size)).trans (h.block k hk hs)⟩
theorem Chg.setCell (h : Chg S w w1) (a : Addr) (u : Value) (ha : a.block < w.heap.size → S a.block) : Chg S w (w1.setCell a u) :=
  ⟨h.os, h.tape, h.output, by have := h.size; simpa using this, fun k hk hs => (Below.heap_setCell w1 a u k fun e => hs (by rw [e]; exact ha (e ▸ hk))).trans (h.block k hk hs)⟩
theorem Chg.cell (h : Chg S w w1) {a : Addr} (hk : a.block < w.heap.size) (hs : ¬ S a.block) : w1.cell? a = w.cell? a := World.cell?_of_block (h.block _ hk hs)
theorem Chg.frozen (h : Chg S w w1) {a : Addr} (hk : a.block < w.heap.size) (hs : ¬ S a.block) : w1.frozen? a = w.frozen? a := World.frozen?_of_block (h.block _ hk hs)
end

/-! ### cells written one behind the other -/

/-- Values laid over an array's from place o on. -/
def putL (cur : Array Value) (o : Nat) : List Value → Array Value
  | [] => cur
  | v :: vs => putL (cur.setIfInBounds o v) (o + 1) vs
theorem putL_size (vs : List Value) : ∀ (cur : Array Value) (o : Nat), (putL cur o vs).size = cur.size := by
  induction vs with
  | nil => intro cur o; rfl
  | cons v vs ih => intro cur o; rw [putL, ih]; simp
theorem putL_out (vs : List Value) : ∀ (cur : Array Value) (o i : Nat), (i < o ∨ o + vs.length ≤ i) → (putL cur o vs)[i]? = cur[i]? := by
  induction vs with
  | nil => intro cur o i _; rfl
  | cons v vs ih =>
    intro cur o i h
    simp only [List.length_cons] at h
    rw [putL, ih _ _ _ (by omega), Array.getElem?_setIfInBounds_ne (by omega)]
theorem putL_in (vs : List Value) : ∀ (cur : Array Value) (o i : Nat), i < vs.length → o + vs.length ≤ cur.size → (putL cur o vs)[o + i]? = vs[i]? := by
  induction vs with
  | nil => intro cur o i h; simp at h
  | cons v vs ih =>
    intro cur o i h hs
    simp only [List.length_cons] at h hs
    rw [putL]
    cases i with
    | zero => rw [putL_out vs _ _ _ (by omega), Nat.add_zero, Array.getElem?_setIfInBounds_self_of_lt (by omega)]; rfl
    | succ i =>
      have := ih (cur.setIfInBounds o v) (o + 1) i (by omega) (by simp; omega)
      rw [show o + (i + 1) = o + 1 + i by omega, this]
      rfl
theorem heap_setCells (g : Nat) (e : TypeId) (vs : List Value) : ∀ (o : Nat) (w : World) (cur : Array Value), w.heap[g]? = some (.cells cur e (0, 0)) → (w.setCells g o vs).heap[g]? = some (.cells (putL cur o vs) e (0, 0)) := by
  induction vs with
  | nil => intro o w cur h; exact h
  | cons v vs ih => intro o w cur h; exact ih (o + 1) _ _ (heap_setCell_same w g o _ _ v h)
theorem setCells_size (g : Nat) (vs : List Value) : ∀ (o : Nat) (w : World), (w.setCells g o vs).heap.size = w.heap.size := by
  induction vs with
  | nil => intro o w; rfl
  | cons v vs ih => intro o w; exact (ih (o + 1) _).trans (by simp)
theorem Chg.setCells {S : Nat → Prop} {w : World} (g : Nat) (hg : S g) (vs : List Value) : ∀ (o : Nat) {w1 : World}, Chg S w w1 → Chg S w (w1.setCells g o vs) := by
  induction vs with
  | nil => intro o w1 h; exact h
  | cons v vs ih => intro o w1 h; exact ih (o + 1) (h.setCell ⟨g, o, none⟩ v fun _ => hg)

/-! ### a slice of a holder's own -/

/-- v is a slice of n elements of sz cells each, xs, in a block from base on that nobody else writes; it may begin anywhere in its block. -/
def OwnS (w : World) (base : Nat) (e : TypeId) (sz : Nat) (v : Value) (n : Nat) (xs : List Value) : Prop :=
  xs.length = n * sz ∧ ((v = .slice none 0 0 ∧ n = 0) ∨
    ∃ g o cap cur, v = .slice (some ⟨g, o, none⟩) n cap ∧ base ≤ g ∧ w.heap[g]? = some (.cells cur e (0, 0)) ∧ n ≤ cap ∧ cap ≤ maxLen ∧ o + cap * sz ≤ cur.size ∧ ∀ i, i < xs.length → cur[o + i]? = xs[i]?)

section
variable {w w1 : World} {base : Nat} {e : TypeId} {sz : Nat} {v : Value} {n : Nat} {xs : List Value}
theorem OwnS.nil (w : World) (base : Nat) (e : TypeId) (sz : Nat) : OwnS w base e sz (.slice none 0 0) 0 [] := ⟨by simp, .inl ⟨rfl, rfl⟩⟩
theorem OwnS.of_row (h : w.ownsRow base e sz v n xs) : OwnS w base e sz v n xs := by
  refine ⟨h.1, ?_⟩
  rcases h.2 with h2 | ⟨g, cap, cur, rfl, hb, hh, hn, hc, hs, ht⟩
  · exact .inl h2
  · refine .inr ⟨g, 0, cap, cur, rfl, hb, hh, hn, hc, by omega, fun i hi => ?_⟩
    have h3 : (cur.toList.take (n * sz))[i]? = xs[i]? := by rw [ht]
    rw [List.getElem?_take_of_lt (by rw [← h.1]; exact hi)] at h3
    rw [Nat.zero_add, ← Array.getElem?_toList, h3]
theorem OwnS.inside (h : OwnS w base e sz v n xs) : ∀ j, v.ownBlock = some j → base ≤ j ∧ j < w.heap.size := by
  rcases h.2 with ⟨rfl, _⟩ | ⟨g, o, cap, cur, rfl, hb, hh, _⟩
  · intro j e; cases e
  · intro j e; cases e; exact ⟨hb, (Array.getElem?_eq_some_iff.1 hh).1⟩
/-- Its block holds elements of this type. -/
theorem OwnS.type (h : OwnS w base e sz v n xs) {j : Nat} (hj : v.ownBlock = some j) : ∃ cur, w.heap[j]? = some (.cells cur e (0, 0)) := by
  rcases h.2 with ⟨rfl, _⟩ | ⟨g, o, cap, cur, rfl, hb, hh, _⟩
  · cases hj
  · cases hj; exact ⟨cur, hh⟩
theorem OwnS.keep (h : OwnS w base e sz v n xs) (hk : ∀ j, v.ownBlock = some j → w1.heap[j]? = w.heap[j]?) : OwnS w1 base e sz v n xs := by
  refine ⟨h.1, ?_⟩
  rcases h.2 with h2 | ⟨g, o, cap, cur, rfl, hb, hh, h3⟩
  · exact .inl h2
  · exact .inr ⟨g, o, cap, cur, rfl, hb, (hk g rfl).trans hh, h3⟩
theorem OwnS.chg {S : Nat → Prop} (h : OwnS w base e sz v n xs) (hc : Chg S w w1) (hs : ∀ j, v.ownBlock = some j → ¬ S j) : OwnS w1 base e sz v n xs :=
  h.keep fun j hj => hc.block j (h.inside j hj).2 (hs j hj)
theorem OwnS.below (h : OwnS w base e sz v n xs) (hb : Below w.heap.size w w1) : OwnS w1 base e sz v n xs := h.keep fun j hj => hb.block j (h.inside j hj).2
theorem OwnS.alloc (h : OwnS w base e sz v n xs) (o : Obj) : OwnS (w.alloc o) base e sz v n xs := h.keep fun j hj => Below.heap_alloc w o j (h.inside j hj).2
theorem OwnS.drew (h : OwnS w base e sz v n xs) : OwnS w.drew base e sz v n xs := h.keep fun _ _ => rfl
theorem OwnS.drewN (h : OwnS w base e sz v n xs) (q : Nat) : OwnS (w.drewN q) base e sz v n xs := by
  induction q with
  | zero => exact h
  | succ q ih => exact ih.drew
theorem OwnS.mono {base' : Nat} (h : OwnS w base e sz v n xs) (hb : base' ≤ base) : OwnS w base' e sz v n xs := by
  refine ⟨h.1, ?_⟩
  rcases h.2 with h2 | ⟨g, o, cap, cur, e1, h3, h4⟩
  · exact .inl h2
  · exact .inr ⟨g, o, cap, cur, e1, Nat.le_trans hb h3, h4⟩
/-- What the walk wants of it: its parts. -/
theorem OwnS.open (h : OwnS w base e sz v n xs) : ∃ a cap, v = .slice a n cap ∧ n ≤ cap ∧ cap ≤ maxLen ∧ (a = none → n = 0 ∧ cap = 0) ∧
    (∀ b, a = some b → b.spot = none ∧ b.block < w.heap.size ∧ base ≤ b.block ∧ ∀ i, i < xs.length → w.cell? ⟨b.block, b.off + i, none⟩ = xs[i]?) := by
  rcases h.2 with ⟨rfl, h0⟩ | ⟨g, o, cap, cur, rfl, hb, hh, hn, hc, hs, ht⟩
  · exact ⟨none, 0, by rw [h0], by omega, by simp [maxLen], fun _ => ⟨h0, rfl⟩, fun b hb => by cases hb⟩
  · refine ⟨_, cap, rfl, hn, hc, (fun e => by cases e), fun b hb' => ?_⟩
    cases hb'
    exact ⟨rfl, (Array.getElem?_eq_some_iff.1 hh).1, hb, fun i hi => (cell_of_row _ _ _ _ _ _ hh).trans (ht i hi)⟩
/-- A slice that begins where this one does and has fewer elements. -/
theorem OwnS.take {a : Option Addr} {cap m : Nat} (h : OwnS w base e sz (.slice a n cap) n xs) (hm : m ≤ n) : OwnS w base e sz (.slice a m cap) m (xs.take (m * sz)) := by
  have hl : m * sz ≤ n * sz := Nat.mul_le_mul_right _ hm
  refine ⟨by rw [List.length_take, h.1]; omega, ?_⟩
  rcases h.2 with ⟨h2, h0⟩ | ⟨g, o, cap', cur, e1, hb, hh, hn, hc, hs, ht⟩
  · cases h2
    exact .inl ⟨by rw [show m = 0 by omega], by omega⟩
  · cases e1
    refine .inr ⟨g, o, cap, cur, rfl, hb, hh, by omega, hc, hs, fun i hi => ?_⟩
    rw [List.length_take] at hi
    rw [List.getElem?_take_of_lt (by omega)]
    exact ht i (by omega)
/-- .. that begins m elements behind: as the model spells it. -/
theorem OwnS.drop {a : Option Addr} {cap m : Nat} (h : OwnS w base e sz (.slice a n cap) n xs) (hm : m ≤ n) : OwnS w base e sz (.slice (if cap = m then a else a.map (·.add (m * sz))) (n - m) (cap - m)) (n - m) (xs.drop (m * sz)) := by
  have hl : m * sz ≤ n * sz := Nat.mul_le_mul_right _ hm
  refine ⟨by rw [List.length_drop, h.1, Nat.sub_mul], ?_⟩
  rcases h.2 with ⟨h2, h0⟩ | ⟨g, o, cap', cur, e1, hb, hh, hn, hc, hs, ht⟩
  · cases h2
    obtain rfl : m = 0 := by omega
    exact .inl ⟨by simp, by omega⟩
  · cases e1
    have hcs : (cap - m) * sz = cap * sz - m * sz := Nat.sub_mul _ _ _
    have hml : m * sz ≤ cap * sz := Nat.mul_le_mul_right _ (by omega)
    by_cases hcm : cap = m
    · subst hcm
      refine .inr ⟨g, o, cap - cap, cur, by simp, hb, hh, by omega, by omega, by simp; omega, fun i hi => ?_⟩
      rw [List.length_drop, h.1] at hi
      have : n * sz ≤ cap * sz := Nat.mul_le_mul_right _ (by omega)
      omega
    · refine .inr ⟨g, o + m * sz, cap - m, cur, by simp [hcm, Addr.add], hb, hh, by omega, by omega, by omega, fun i hi => ?_⟩
      rw [List.length_drop] at hi
      rw [List.getElem?_drop, ← ht _ (by omega), Nat.add_assoc]
/-- One cell of it written over. -/
theorem OwnS.set {g o cap : Nat} (h : OwnS w base e sz (.slice (some ⟨g, o, none⟩) n cap) n xs) (i : Nat) (hi : i < xs.length) (u : Value) : OwnS (w.setCell ⟨g, o + i, none⟩ u) base e sz (.slice (some ⟨g, o, none⟩) n cap) n (xs.set i u) := by
  refine ⟨by rw [List.length_set]; exact h.1, ?_⟩
  rcases h.2 with ⟨h2, _⟩ | ⟨g', o', cap', cur, e1, hb, hh, hn, hc, hs, ht⟩
  · cases h2
  · cases e1
    have hl := h.1
    have hns : n * sz ≤ cap * sz := Nat.mul_le_mul_right _ hn
    refine .inr ⟨g, o, cap, _, rfl, hb, heap_setCell_same w g (o + i) _ _ u hh, hn, hc, by simpa using hs, fun j hj => ?_⟩
    rw [List.length_set] at hj
    by_cases hij : i = j
    · subst hij
      rw [Array.getElem?_setIfInBounds_self_of_lt (by omega), List.getElem?_set_self hi]
    · rw [Array.getElem?_setIfInBounds_ne (by omega), List.getElem?_set_ne hij]
      exact ht j hj
theorem OwnS.thaw {g o cap : Nat} (h : OwnS w base e sz (.slice (some ⟨g, o, none⟩) n cap) n xs) (i : Nat) : w.frozen? ⟨g, i, none⟩ = false := by
  rcases h.2 with ⟨h2, _⟩ | ⟨g', o', cap', cur, e1, hb, hh, _⟩
  · cases h2
  · cases e1; exact frozen_of_row _ _ _ _ _ hh
end

/-! ### append -/
section
variable {P : Program} {w : World} {base : Nat} {e : TypeId} {sz bytes : Nat} {v : Value} {n : Nat} {xs : List Value}

/-- append to a slice of one's own, of whatever is appended. -/
theorem run_append_S (t tx ty : TypeId) (z : Value) (ht : P.underlying t = some (.slice e)) (hinfo : (P.info? e).map (fun i => (i.zero, i.size, i.bytes)) = some (some z, sz, bytes)) (hzs : z.cells.size = sz)
    (hown : OwnS w base e sz v n xs) (x : Value) (m : Nat) (news : List Value) (hsrc : Src P sz tx x m news w) (h63 : n + m ≤ maxLen) (hbytes : ((n + m) + (n + m) / 4 + 192) * bytes ≤ 281474976710656) (hbase : base ≤ w.heap.size) :
    ∃ v' w', (Builtin.append_ #[t, tx] ty #[v, x]).run P w = .ok v' w' ∧ OwnS w' base e sz v' (n + m) (xs ++ news) ∧ w.grownBy w' v.ownBlock ∧ (v'.ownBlock = v.ownBlock ∨ v'.ownBlock = some w.heap.size) := by
  obtain ⟨i, hi, hz, hsz, hby⟩ := info_parts hinfo
  subst hsz
  subst hby
  have hlen : (xs ++ news).length = (n + m) * i.size := by rw [List.length_append, hown.1, hsrc.newsLen, Nat.add_mul]
  have h63' : ((n + m : Nat) : Int) ≤ 9223372036854775807 := by simp only [maxLen] at h63; omega
  have grown : ∀ (a : Option Addr) (old : Nat) (_ : v = .slice a n old), old < n + m → (∀ b, a = some b → ∀ j u, xs[j]? = some u → w.cell? (b.add j) = some u) → (a = none → n = 0) → old ≤ maxLen →
      ∃ v' w', (Builtin.append_ #[t, tx] ty #[v, x]).run P w = .ok v' w' ∧ OwnS w' base e i.size v' (n + m) (xs ++ news) ∧ w.grownBy w' v.ownBlock ∧ (v'.ownBlock = v.ownBlock ∨ v'.ownBlock = some w.heap.size) := by
    intro a old hv ho hc hn hm
    subst hv
    have hold : (Builtin.firstCells i.size n (.slice a n old)).run P w.drew = .ok xs.toArray w.drew := by
      cases a with
      | none =>
        have hx : xs = [] := List.eq_nil_of_length_eq_zero (by rw [hown.1, hn rfl]; simp)
        subst hx
        exact run_firstCells_none w.drew i.size n n old
      | some b => exact run_firstCells_some w.drew i.size n b n old xs hown.1 (by simpa using hc b rfl)
    have hr := run_append_grow_src (P := P) w t tx ty e i z ht hi hz a n old xs hold x m news hsrc ho h63' (growslice_fits_wide (by omega) hbytes)
    have hge := grownCap_ge w (n + m) old e
    refine ⟨_, _, hr, ⟨hlen, .inr ⟨w.heap.size, 0, _, _, rfl, hbase, heap_alloc_new w.drew _, hge, grownCap_le_maxLen w (n + m) old e h63, ?_, fun j hj => ?_⟩⟩, ⟨rfl, rfl, rfl, by simp, fun k hk _ => Below.heap_alloc w.drew _ k hk⟩, .inr rfl⟩
    · have : (grownCap w (n + m) old e) * i.size = (n + m) * i.size + (grownCap w (n + m) old e - (n + m)) * i.size := by rw [← Nat.add_mul]; congr 1; omega
      rw [Array.size_append, List.size_toArray, size_zeroCells, hzs, hlen]
      omega
    · rw [Nat.zero_add, Array.getElem?_append_left (by simpa using hj), List.getElem?_toArray]
  rcases hown.2 with ⟨rfl, rfl⟩ | ⟨g, o, cap, cur, rfl, hbg, hg, hnc, hcm, hcs, hat⟩
  · by_cases hm : m = 0
    · subst hm
      have hn : news = [] := List.eq_nil_of_length_eq_zero (by rw [hsrc.newsLen]; simp)
      have hx : xs = [] := List.eq_nil_of_length_eq_zero (by rw [hown.1]; simp)
      subst hn
      subst hx
      refine ⟨.slice none 0 0, w, ?_, OwnS.nil _ _ _ _, ⟨rfl, rfl, rfl, Nat.le_refl _, fun _ _ _ => rfl⟩, .inl rfl⟩
      rcases hsrc.kind with ⟨e', hk⟩ | hk <;> simp [Builtin.append_, run_underlying ht, run_underlying hk, sizeOf, typeInfo, hi, hsrc.len, hsrc.cells]
    · exact grown none 0 rfl (by omega) (fun b hb => by cases hb) (fun _ => rfl) (by simp [maxLen])
  · by_cases hroom : n + m ≤ cap
    · have hl := hsrc.newsLen
      have h1 : (n + m) * i.size ≤ cap * i.size := Nat.mul_le_mul_right _ hroom
      rw [Nat.add_mul] at h1
      have hxl := hown.1
      have hr := run_append_room_src (P := P) w t tx ty e i ht hi g o n cap x m news hsrc hroom
        (fun j hj => by rw [cell_of_row _ _ _ _ _ _ hg, Array.getElem?_eq_getElem (by omega)]; rfl) (fun j hj => frozen_of_row _ _ _ _ _ hg)
      refine ⟨_, _, hr, ⟨hlen, .inr ⟨g, o, cap, _, rfl, hbg, heap_setCells g e news _ w cur hg, hroom, hcm, by rw [putL_size]; exact hcs, fun j hj => ?_⟩⟩, (Chg.setCells (S := fun k => k = g) g rfl news _ (Chg.refl _ w)).grown (fun k hk => by rw [hk]; rfl), .inl rfl⟩
      by_cases hjx : j < xs.length
      · rw [putL_out _ _ _ _ (by omega), List.getElem?_append_left hjx]
        exact hat j hjx
      · rw [List.length_append] at hj
        have := putL_in news cur (o + n * i.size) (j - xs.length) (by omega) (by omega)
        rw [show o + n * i.size + (j - xs.length) = o + j by omega] at this
        rw [this, List.getElem?_append_right (by omega)]
    · refine grown (some ⟨g, o, none⟩) cap rfl (by omega) (fun b hb j u hu => ?_) (fun e => by cases e) hcm
      cases hb
      have hj := (List.getElem?_eq_some_iff.1 hu).1
      rw [Addr.add_lit, cell_of_row _ _ _ _ _ _ hg, hat j hj]
      exact hu

/-- .. for the walk. -/
theorem wpList_append_S {ops : Array Oper} {rest : List Oper} {o : Oper} {a : Act} {Q : Exit → Act → World → Prop} (hgd : o.guard = none) (s x : Operand) (t tx : TypeId)
    (ho : o.op = .call { callee := .builtin .append, args := #[s, x], argTypes := #[t, tx] })
    (z : Value) (ht : P.underlying t = some (.slice e)) (hinfo : (P.info? e).map (fun i => (i.zero, i.size, i.bytes)) = some (some z, sz, bytes)) (hzs : z.cells.size = sz)
    (hs : a.eval s = v) (hown : OwnS w base e sz v n xs) (y : Value) (hx : a.eval x = y) (m : Nat) (news : List Value) (hsrc : Src P sz tx y m news w) (h63 : n + m ≤ maxLen) (hbytes : ((n + m) + (n + m) / 4 + 192) * bytes ≤ 281474976710656) (hbase : base ≤ w.heap.size)
    (h : ∀ v' w', OwnS w' base e sz v' (n + m) (xs ++ news) → w.grownBy w' v.ownBlock → (v'.ownBlock = v.ownBlock ∨ v'.ownBlock = some w.heap.size) → wpList P ops Q rest (a.put o.dst v') w') :
    wpList P ops Q (o :: rest) a w := by
  refine wpList_plain hgd fun K hK => ?_
  obtain ⟨v', w', hr, h2, h3, h4⟩ := run_append_S (P := P) t tx o.type z ht hinfo hzs hown y m news hsrc h63 hbytes hbase
  unfold Oper.wp execOp
  simp only [ho, resolve, invoke, builtin, Sem.run_bind, Sem.run_pure, Result.andThen_ok, List.map_toArray, List.map_cons, List.map_nil, hs, hx, hr]
  exact hK _ _ (h v' w' h2 h3 h4)
end

end Go.Proofs.Ytbafjkanbbcbgaa
