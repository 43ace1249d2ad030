/- A store: its keys and their versions; how they lie in memory. -/
import Derived.Test.YthaknohnccmfoaaHn5Y
import Derived.Sort.KeysCollected
import Derived.Maps.RangeWalk
import Derived.Maps.OwnSet
namespace Go.Proofs.Ythaknohnccmfoaa
open Go.RowKit Go.Maps

/-! ### the content -/
/-- A version of a key: its stamp, its bytes, whether it is dead. -/
structure Ver where
  n : Int
  b : List Nat
  d : Bool
def zeroVer : Ver := ⟨0, [], false⟩
def vr (ls : List Ver) (i : Nat) : Ver := ls.getD i zeroVer
theorem vr_get {ls : List Ver} {i : Nat} (hi : i < ls.length) : ls[i] = vr ls i := by
  unfold vr; rw [List.getD_eq_getElem?_getD, List.getElem?_eq_getElem hi]; rfl
theorem vr_left {ls ms : List Ver} {i : Nat} (h : i < ls.length) : vr (ls ++ ms) i = vr ls i := by
  unfold vr; rw [List.getD_eq_getElem?_getD, List.getD_eq_getElem?_getD, List.getElem?_append_left h]
theorem vr_last (ls : List Ver) (l : Ver) : vr (ls ++ [l]) ls.length = l := by
  unfold vr; rw [List.getD_eq_getElem?_getD, List.getElem?_append_right (Nat.le_refl _)]; simp
theorem vr_drop (ls : List Ver) (m i : Nat) : vr (ls.drop m) i = vr ls (m + i) := by
  unfold vr; rw [List.getD_eq_getElem?_getD, List.getD_eq_getElem?_getD, List.getElem?_drop]
theorem eq_of_vr {ls ms : List Ver} (hl : ls.length = ms.length) (h : ∀ i, i < ls.length → vr ls i = vr ms i) : ls = ms := by
  apply List.ext_getElem hl
  intro i h1 h2
  rw [vr_get h1, vr_get h2]; exact h i h1

/-- Keys with their versions, as keys rise. -/
abbrev Cont := List (List UInt8 × List Ver)
/-- Is a key there? The versions of a key. -/
def hasK (A : Cont) (k : List UInt8) : Bool := A.any fun e => e.1 == k
def lsOf (A : Cont) (k : List UInt8) : List Ver := ((A.find? fun e => e.1 == k).map (·.2)).getD []
/-- How many versions have a stamp at or below one. -/
def upV (ls : List Ver) (s : Int) : Nat := (ls.filter fun l => decide (l.n ≤ s)).length
theorem upV_le (ls : List Ver) (s : Int) : upV ls s ≤ ls.length := List.length_filter_le _ _
/-- A key's versions put in the place of what it has. -/
def setA (A : Cont) (k : List UInt8) (ls : List Ver) : Cont := A.map fun e => if e.1 == k then (e.1, ls) else e
/-- A key without versions, laid in its place. -/
def insA (k : List UInt8) : Cont → Cont
  | [] => [(k, [])]
  | e :: r => if bytesBefore k e.1 then (k, []) :: e :: r else e :: insA k r

/-! ### memory -/
/-- A key, its chain's block, the slice of its links, these, and what they read as. -/
structure Ky where
  k : List UInt8
  c : Nat
  v : Value
  xs : List kY.Lk
  ls : List Ver
def abs (M : List Ky) : Cont := M.map fun e => (e.k, e.ls)
/-- The chain's own blocks. -/
def Fc (c : Nat) (v : Value) (j : Nat) : Prop := j = c ∨ v.ownBlock = some j
/-- A link reads as a version. -/
structure LinkIs (w : World) (F : Nat → Prop) (x : kY.Lk) (l : Ver) : Prop where
  n : x.n = l.n
  d : x.d = l.d
  b : OwnB w 0 (.slice x.v.1 x.v.2.1 x.v.2.2) l.b
  f : ∀ j, (Value.slice x.v.1 x.v.2.1 x.v.2.2).ownBlock = some j → F j
/-- A key's chain lies there. -/
structure KyOk (w : World) (F : Nat → Prop) (e : Ky) : Prop where
  hn : kY.Hn w (Fc e.c e.v) e.c e.v e.xs
  len : e.xs.length = e.ls.length
  at_ : ∀ i, i < e.xs.length → LinkIs w F (kY.lk e.xs i) (vr e.ls i)
  kl : e.k.length ≤ maxLen
  fc : ∀ j, Fc e.c e.v j → F j
theorem hn_own {w : World} {G : Nat → Prop} {c : Nat} {v : Value} {xs : List kY.Lk} (h : kY.Hn w G c v xs) : kY.Hn w (Fc c v) c v xs := ⟨h.blk, h.own, h.good, .inl rfl, fun _ hj => .inr hj⟩
/-- How a pointer to a chain reads, as an element of the map. -/
def ptrR (v : Value) : Option (DataW Unit × List MemPlace) :=
  match v with
  | .pointer (some ⟨c, 0, none⟩) => some (.lit (.int .i64 (c : Int)), [])
  | .pointer none => some (.nil, [])
  | _ => none
/-- What the map reads as. -/
def datM (M : List Ky) : DataW Unit := .map (M.map fun e => (.string e.k, .lit (.int .i64 (e.c : Int))))
/-- The store in block s: its map is mb. -/
structure Sto (w : World) (F : Nat → Prop) (s : Nat) (mb : Option Nat) (M : List Ky) : Prop where
  blk : w.heap[s]? = some (.cells #[.map mb] 75 (0, 0))
  nomap : mb = none → M = []
  map : ∀ b, mb = some b → w.ownsMap Try.prog 9 ptrR b M.length (datM M) ∧ F b
  each : ∀ e ∈ M, KyOk w F e
  apart : M.Pairwise fun e f => ∀ j, Fc e.c e.v j → ¬ Fc f.c f.v j
  rise : M.Pairwise fun e f => bytesBefore e.k f.k = true
  fs : F s
  lt : ∀ j, F j → j < w.heap.size

theorem law_string : Keyed Try.prog 9 := string_keyed Try.underlying9

theorem OwnB.hold {w w' : World} {base : Nat} {v : Value} {zs : List Nat} (h : OwnB w base v zs) (hk : ∀ j, v.ownBlock = some j → w'.heap[j]? = w.heap[j]?) : OwnB w' base v zs := by
  refine ⟨h.1, ?_⟩
  rcases h.2 with h2 | ⟨g, cap, cur, rfl, h3, hh, h4⟩
  · exact .inl h2
  · exact .inr ⟨g, cap, cur, rfl, h3, (hk g rfl).trans hh, h4⟩
theorem ownsMap_hold {w w' : World} {P : Program} {k : TypeId} {R : Value → Option (DataW Unit × List MemPlace)} {b n : Nat} {D : DataW Unit} (h : w.ownsMap P k R b n D) (hb : w'.heap[b]? = w.heap[b]?) : w'.ownsMap P k R b n D := by
  obtain ⟨es, clock, h1, h2⟩ := h
  exact ⟨es, clock, hb.trans h1, h2⟩

section
variable {w w' : World} {F : Nat → Prop} {s : Nat} {mb : Option Nat} {M : List Ky}
theorem LinkIs.hold {x : kY.Lk} {l : Ver} (h : LinkIs w F x l) (hk : ∀ j, F j → w'.heap[j]? = w.heap[j]?) : LinkIs w' F x l := ⟨h.n, h.d, h.b.hold fun j hj => hk j (h.f j hj), h.f⟩
theorem LinkIs.mono {G : Nat → Prop} {x : kY.Lk} {l : Ver} (h : LinkIs w F x l) (hg : ∀ j, F j → G j) : LinkIs w G x l := ⟨h.n, h.d, h.b, fun j hj => hg j (h.f j hj)⟩
theorem KyOk.hold {e : Ky} (h : KyOk w F e) (hk : ∀ j, F j → w'.heap[j]? = w.heap[j]?) : KyOk w' F e :=
  ⟨h.hn.keep fun j _ hj => hk j (h.fc j hj), h.len, fun i hi => (h.at_ i hi).hold hk, h.kl, h.fc⟩
theorem KyOk.mono {G : Nat → Prop} {e : Ky} (h : KyOk w F e) (hg : ∀ j, F j → G j) : KyOk w G e := ⟨h.hn, h.len, fun i hi => (h.at_ i hi).mono hg, h.kl, fun j hj => hg j (h.fc j hj)⟩
theorem Sto.hold (h : Sto w F s mb M) (hk : ∀ j, F j → w'.heap[j]? = w.heap[j]?) (hs : w.heap.size ≤ w'.heap.size) : Sto w' F s mb M :=
  ⟨(hk s h.fs).trans h.blk, h.nomap, fun b e => ⟨ownsMap_hold (h.map b e).1 (hk b (h.map b e).2), (h.map b e).2⟩, fun e he => (h.each e he).hold hk, h.apart, h.rise, h.fs, fun j hj => Nat.lt_of_lt_of_le (h.lt j hj) hs⟩
theorem Sto.below (h : Sto w F s mb M) (hb : Below w.heap.size w w') : Sto w' F s mb M := h.hold (fun j hj => hb.block j (h.lt j hj)) hb.size
theorem Sto.chg {S : Nat → Prop} (h : Sto w F s mb M) (hc : Chg S w w') (hs : ∀ j, S j → ¬ F j) : Sto w' F s mb M := h.hold (fun j hj => hc.block j (h.lt j hj) fun e => hs j e hj) hc.size
theorem Sto.mono {G : Nat → Prop} (h : Sto w F s mb M) (hg : ∀ j, F j → G j) (hl : ∀ j, G j → j < w.heap.size) : Sto w G s mb M :=
  ⟨h.blk, h.nomap, fun b e => ⟨(h.map b e).1, hg _ (h.map b e).2⟩, fun e he => (h.each e he).mono hg, h.apart, h.rise, hg _ h.fs, hl⟩
theorem Sto.slt (h : Sto w F s mb M) : s < w.heap.size := (Array.getElem?_eq_some_iff.1 h.blk).1
theorem Sto.cell (h : Sto w F s mb M) : w.cell? ⟨s, 0, none⟩ = some (.map mb) ∧ ∀ j, w.frozen? ⟨s, j, none⟩ = false := ⟨cell_of_row _ _ _ _ _ _ h.blk, fun _ => frozen_of_row _ _ _ _ _ h.blk⟩
end

/-! ### a key's entry -/
theorem before_ne {a b : List UInt8} (h : bytesBefore a b = true) : a ≠ b := fun e => by
  subst e; rw [WideAt.bytes_irrefl] at h; cases h
theorem rise_ne {M : List Ky} (h : M.Pairwise fun e f => bytesBefore e.k f.k = true) : M.Pairwise fun e f => e.k ≠ f.k := h.imp fun h => before_ne h
/-- The entry of a key. -/
def kyOf (M : List Ky) (k : List UInt8) : Option Ky := M.find? fun e => e.k == k
theorem kyOf_some {M : List Ky} {k : List UInt8} {e : Ky} (h : kyOf M k = some e) : e ∈ M ∧ e.k = k := by
  unfold kyOf at h
  exact ⟨List.mem_of_find?_eq_some h, by simpa using List.find?_some h⟩
theorem kyOf_none {M : List Ky} {k : List UInt8} (h : kyOf M k = none) : ∀ e ∈ M, e.k ≠ k := by
  unfold kyOf at h
  intro e he
  have := List.find?_eq_none.1 h e he
  simpa using this
theorem find_abs (M : List Ky) (k : List UInt8) : (abs M).find? (fun e => e.1 == k) = (kyOf M k).map fun e => (e.k, e.ls) := by
  unfold abs kyOf; rw [List.find?_map]; rfl
theorem lsOf_abs (M : List Ky) (k : List UInt8) : lsOf (abs M) k = ((kyOf M k).map (·.ls)).getD [] := by
  unfold lsOf; rw [find_abs]; cases kyOf M k <;> rfl
theorem hasK_abs (M : List Ky) (k : List UInt8) : hasK (abs M) k = (kyOf M k).isSome := by
  unfold hasK kyOf abs
  rw [List.any_map, List.isSome_find?]; rfl
/-- What the map answers at a key. -/
theorem atKey_datM (M : List Ky) (k : List UInt8) (z : DataW Unit) : (datM M).atKey (.string k) z = ((kyOf M k).map fun e => DataW.lit (.int .i64 (e.c : Int))).getD z := by
  unfold datM DataW.atKey kyOf
  simp only []
  rw [List.find?_map]
  have e : ((fun p : Lit × DataW Unit => p.1.sameKey (.string k)) ∘ fun e : Ky => ((Lit.string e.k, DataW.lit (.int .i64 (e.c : Int))) : Lit × DataW Unit)) = fun e : Ky => e.k == k := by
    funext e; simp [Lit.sameKey]
  rw [e]
  cases M.find? (fun e : Ky => e.k == k) <;> rfl
theorem ptrR_int {v : Value} {c : Int} {ps : List MemPlace} (h : ptrR v = some (.lit (.int .i64 c), ps)) : ∃ b : Nat, v = .pointer (some ⟨b, 0, none⟩) ∧ (b : Int) = c := by
  unfold ptrR at h
  split at h
  · next b => simp at h; exact ⟨b, rfl, h.1⟩
  · simp at h
  · cases h
theorem ptrR_nil {v : Value} {ps : List MemPlace} (h : ptrR v = some (.nil, ps)) : v = .pointer none := by
  unfold ptrR at h
  split at h
  · simp at h
  · rfl
  · cases h

/-! ### a key laid in -/
def insM (e : Ky) : List Ky → List Ky
  | [] => [e]
  | f :: r => if bytesBefore e.k f.k then e :: f :: r else f :: insM e r
theorem mem_insM (e : Ky) (M : List Ky) (x : Ky) : x ∈ insM e M ↔ x = e ∨ x ∈ M := by
  induction M with
  | nil => simp [insM]
  | cons f r ih =>
    unfold insM
    split
    · simp
    · rw [List.mem_cons, ih, List.mem_cons]
      constructor
      · rintro (h | h | h)
        · exact .inr (.inl h)
        · exact .inl h
        · exact .inr (.inr h)
      · rintro (h | h | h)
        · exact .inr (.inl h)
        · exact .inl h
        · exact .inr (.inr h)
theorem insM_len (e : Ky) (M : List Ky) : (insM e M).length = M.length + 1 := by
  induction M with
  | nil => rfl
  | cons f r ih => unfold insM; split <;> simp [ih]
theorem abs_insM (e : Ky) (he : e.ls = []) (M : List Ky) : abs (insM e M) = insA e.k (abs M) := by
  induction M with
  | nil => simp [abs, insM, insA, he]
  | cons f r ih =>
    show abs (insM e (f :: r)) = insA e.k ((f.k, f.ls) :: abs r)
    unfold insM insA
    by_cases h : bytesBefore e.k f.k = true
    · rw [if_pos h, if_pos h]; simp [abs, he]
    · rw [if_neg h, if_neg h, ← ih]; rfl
theorem datM_insM (e : Ky) (M : List Ky) (hn : ∀ f ∈ M, f.k ≠ e.k) : datM (insM e M) = (datM M).put (.string e.k) (.lit (.int .i64 (e.c : Int))) := by
  unfold datM DataW.put
  simp only []
  congr 1
  have hf : (M.map fun f => ((Lit.string f.k, DataW.lit (.int .i64 (f.c : Int))) : Lit × DataW Unit)).filter (fun p => !p.1.sameKey (.string e.k)) = M.map fun f => (Lit.string f.k, DataW.lit (.int .i64 (f.c : Int))) := by
    rw [List.filter_eq_self]
    intro p hp
    obtain ⟨f, hf, rfl⟩ := List.mem_map.1 hp
    simp [Lit.sameKey, hn f hf]
  rw [hf]
  clear hf hn
  induction M with
  | nil => rfl
  | cons f r ih =>
    unfold insM
    rw [List.map_cons]
    unfold DataW.insert
    by_cases h : bytesBefore e.k f.k = true
    · rw [if_pos h, if_pos (by exact h)]; rfl
    · rw [if_neg h, if_neg (by exact h), List.map_cons, ih]
theorem insM_rise {e : Ky} {M : List Ky} (h : M.Pairwise fun e f => bytesBefore e.k f.k = true) (hn : ∀ f ∈ M, f.k ≠ e.k) : (insM e M).Pairwise fun e f => bytesBefore e.k f.k = true := by
  induction M with
  | nil => exact List.pairwise_singleton _ _
  | cons f r ih =>
    obtain ⟨h1, h2⟩ := List.pairwise_cons.1 h
    unfold insM
    by_cases hb : bytesBefore e.k f.k = true
    · rw [if_pos hb]
      refine List.pairwise_cons.2 ⟨fun g hg => ?_, h⟩
      rcases List.mem_cons.1 hg with rfl | hg
      · exact hb
      · exact WideShapes.bytes_trans _ _ _ hb (h1 g hg)
    · rw [if_neg hb]
      refine List.pairwise_cons.2 ⟨fun g hg => ?_, ih h2 fun g hg => hn g (List.mem_cons_of_mem _ hg)⟩
      rcases (mem_insM e r g).1 hg with rfl | hg
      · rcases WideAt.bytes_total f.k g.k (hn f (List.mem_cons_self ..)) with h3 | h3
        · exact h3
        · exact absurd h3 hb
      · exact h1 g hg
theorem insM_pair {R : Ky → Ky → Prop} (hs : ∀ a b, R a b → R b a) {e : Ky} {M : List Ky} (h : M.Pairwise R) (hn : ∀ f ∈ M, R e f) : (insM e M).Pairwise R := by
  induction M with
  | nil => exact List.pairwise_singleton _ _
  | cons f r ih =>
    obtain ⟨h1, h2⟩ := List.pairwise_cons.1 h
    unfold insM
    split
    · exact List.pairwise_cons.2 ⟨hn, h⟩
    · refine List.pairwise_cons.2 ⟨fun g hg => ?_, ih h2 fun g hg => hn g (List.mem_cons_of_mem _ hg)⟩
      rcases (mem_insM e r g).1 hg with rfl | hg
      · exact hs _ _ (hn f (List.mem_cons_self ..))
      · exact h1 g hg

/-! ### a chain turned -/
/-- The entry of a key, its chain turned. -/
def setM (M : List Ky) (k : List UInt8) (v : Value) (xs : List kY.Lk) (ls : List Ver) : List Ky := M.map fun e => if e.k == k then ⟨e.k, e.c, v, xs, ls⟩ else e
theorem abs_setM (M : List Ky) (k : List UInt8) (v : Value) (xs : List kY.Lk) (ls : List Ver) : abs (setM M k v xs ls) = setA (abs M) k ls := by
  unfold abs setM setA
  rw [List.map_map, List.map_map]
  refine List.map_congr_left fun e _ => ?_
  simp only [Function.comp]
  split <;> rfl
theorem datM_setM (M : List Ky) (k : List UInt8) (v : Value) (xs : List kY.Lk) (ls : List Ver) : datM (setM M k v xs ls) = datM M := by
  unfold datM setM
  rw [List.map_map]
  congr 1
  refine List.map_congr_left fun e _ => ?_
  simp only [Function.comp]
  split <;> rfl
theorem setM_len (M : List Ky) (k : List UInt8) (v : Value) (xs : List kY.Lk) (ls : List Ver) : (setM M k v xs ls).length = M.length := by simp [setM]
/-- The blocks of two entries are apart. -/
def Apart (e f : Ky) : Prop := ∀ j, Fc e.c e.v j → ¬ Fc f.c f.v j
theorem Apart.symm {e f : Ky} (h : Apart e f) : Apart f e := fun j h1 h2 => h j h2 h1
theorem pair_of {R : Ky → Ky → Prop} (hs : ∀ a b, R a b → R b a) {M : List Ky} (h : M.Pairwise R) {e f : Ky} (he : e ∈ M) (hf : f ∈ M) (hn : e ≠ f) : R e f := by
  induction M with
  | nil => cases he
  | cons g r ih =>
    obtain ⟨h1, h2⟩ := List.pairwise_cons.1 h
    rcases List.mem_cons.1 he with e1 | he'
    · rcases List.mem_cons.1 hf with e2 | hf'
      · exact absurd (e1.trans e2.symm) hn
      · exact e1 ▸ h1 f hf'
    · rcases List.mem_cons.1 hf with e2 | hf'
      · exact e2 ▸ hs _ _ (h1 e he')
      · exact ih h2 he' hf'
theorem one_key {M : List Ky} (h : M.Pairwise fun e f => bytesBefore e.k f.k = true) {e f : Ky} (he : e ∈ M) (hf : f ∈ M) (hk : e.k = f.k) : e = f := by
  by_cases hne : e = f
  · exact hne
  · exact absurd hk (pair_of (R := fun e f => e.k ≠ f.k) (fun _ _ h => h.symm) (rise_ne h) he hf hne)

section
variable {w w' : World} {F : Nat → Prop} {s : Nat} {mb : Option Nat} {M : List Ky}
/-- A chain's own blocks are of links and of chains: none is the store's, its map's, a value's. -/
theorem Sto.fc_ne_s (h : Sto w F s mb M) {e : Ky} (he : e ∈ M) : ¬ Fc e.c e.v s := fun hj => by
  have hn := (h.each e he).hn
  have h2 := h.blk
  rcases hj with rfl | hj
  · rw [hn.blk] at h2
    injection h2 with h2
    injection h2 with _ h3
    cases h3
  · obtain ⟨cur, h3⟩ := OwnS.type hn.own hj
    rw [h3] at h2; cases h2
theorem Sto.fc_ne_map (h : Sto w F s mb M) {e : Ky} (he : e ∈ M) {b : Nat} (hb : mb = some b) : ¬ Fc e.c e.v b := fun hj => by
  have hn := (h.each e he).hn
  obtain ⟨es, clock, h2, _⟩ := (h.map b hb).1
  rcases hj with rfl | hj
  · rw [hn.blk] at h2; cases h2
  · obtain ⟨cur, h3⟩ := OwnS.type hn.own hj
    rw [h3] at h2; cases h2
theorem OwnB.typed {w : World} {base : Nat} {v : Value} {zs : List Nat} (h : OwnB w base v zs) {j : Nat} (hj : v.ownBlock = some j) : ∃ cur, w.heap[j]? = some (.cells cur 5 (0, 0)) := by
  rcases h.2 with ⟨rfl, _⟩ | ⟨g, cap, cur, rfl, _, hh, _⟩
  · cases hj
  · cases hj; exact ⟨cur, hh⟩
theorem fc_ne_val {e : Ky} (hn : kY.Hn w (Fc e.c e.v) e.c e.v e.xs) {x : Value} {zs : List Nat} {base : Nat} (hx : OwnB w base x zs) {j : Nat} (hj : x.ownBlock = some j) : ¬ Fc e.c e.v j := fun hc => by
  obtain ⟨cur, h2⟩ := hx.typed hj
  rcases hc with rfl | hc
  · rw [hn.blk] at h2; cases h2
  · obtain ⟨cur', h3⟩ := OwnS.type hn.own hc
    rw [h3] at h2; cases h2

/-- One chain was turned: the store behind it. -/
theorem Sto.turn (h : Sto w F s mb M) {e : Ky} (he : e ∈ M) (hc : Chg (Fc e.c e.v) w w') {v' : Value} {xs' : List kY.Lk} {ls' : List Ver} (hn : kY.Hn w' (kY.upto (Fc e.c e.v) w w') e.c v' xs') (hl : xs'.length = ls'.length)
    (ha : ∀ i, i < xs'.length → LinkIs w' (kY.upto F w w') (kY.lk xs' i) (vr ls' i)) : Sto w' (kY.upto F w w') s mb (setM M e.k v' xs' ls') := by
  have hfc := (h.each e he).fc
  have hu : ∀ j, Fc e.c v' j → kY.upto (Fc e.c e.v) w w' j := fun j hj => by
    rcases hj with rfl | hj
    · exact hn.fp
    · exact hn.fv j hj
  have old : ∀ f ∈ M, f ≠ e → KyOk w' (kY.upto F w w') f := fun f hf hne => by
    have hap : Apart f e := pair_of (fun _ _ => Apart.symm) h.apart hf he hne
    have ho := h.each f hf
    refine ⟨ho.hn.keep fun j hl hj => hc.block j hl fun hs => hap j hj hs, ho.len, fun i hi => ?_, ho.kl, fun j hj => .inl (ho.fc j hj)⟩
    have hli := ho.at_ i hi
    exact ⟨hli.n, hli.d, hli.b.hold fun j hj => hc.block j (h.lt j (hli.f j hj)) (fc_ne_val (h.each e he).hn hli.b hj), fun j hj => .inl (hli.f j hj)⟩
  have hek : ∀ f ∈ M, (f.k == e.k) = true → f = e := fun f hf hk => one_key h.rise hf he (by simpa using hk)
  refine ⟨(hc.block s h.slt (h.fc_ne_s he)).trans h.blk, fun e0 => ?_, fun b eb => ⟨?_, .inl (h.map b eb).2⟩, fun f hf => ?_, ?_, ?_, .inl h.fs, fun j hj => ?_⟩
  · rw [h.nomap e0] at he; cases he
  · rw [datM_setM, setM_len]
    exact ownsMap_hold (h.map b eb).1 (hc.block b (h.lt b (h.map b eb).2) (h.fc_ne_map he eb))
  · obtain ⟨g, hg, rfl⟩ := List.mem_map.1 hf
    by_cases hk : (g.k == e.k) = true
    · rw [if_pos hk]
      obtain rfl := hek g hg hk
      exact ⟨hn_own hn, hl, ha, (h.each g hg).kl, fun j hj => (hu j hj).imp (hfc j) id⟩
    · rw [if_neg hk]
      exact old g hg fun e1 => hk (by rw [e1]; simp)
  · refine List.pairwise_map.2 ((h.apart.and h.rise).imp_of_mem fun {a b} hma hmb hab => ?_)
    obtain ⟨hab, hr⟩ := hab
    have hne := before_ne hr
    have key : ∀ f ∈ M, f ≠ e → ∀ j, Fc e.c v' j → ¬ Fc f.c f.v j := fun f hf hne j hj hj2 => by
      rcases hu j hj with h1 | h1
      · exact pair_of (fun _ _ => Apart.symm) h.apart he hf (Ne.symm hne) j h1 hj2
      · have := h.lt j ((h.each f hf).fc j hj2); omega
    by_cases ha1 : (a.k == e.k) = true
    · obtain rfl := hek a hma ha1
      have hb1 : ¬ (b.k == a.k) = true := by simpa using Ne.symm hne
      rw [if_pos ha1, if_neg hb1]
      exact key b hmb fun e1 => hb1 (by rw [e1]; simp)
    · rw [if_neg ha1]
      by_cases hb1 : (b.k == e.k) = true
      · obtain rfl := hek b hmb hb1
        rw [if_pos hb1]
        intro j h1 h2
        exact key a hma (fun e1 => ha1 (by rw [e1]; simp)) j h2 h1
      · rw [if_neg hb1]; exact hab
  · refine List.pairwise_map.2 (h.rise.imp fun {a b} hab => ?_)
    split <;> split <;> exact hab
  · rcases hj with hj | hj
    · exact Nat.lt_of_lt_of_le (h.lt j hj) hc.size
    · exact hj.2
end

end Go.Proofs.Ythaknohnccmfoaa
