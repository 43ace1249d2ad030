/- A set of writes: what it holds; how it lies in memory. -/
import Derived.Test.YtbafjkanbbcbgaaXw1
namespace Go.Proofs.Ytbafjkanbbcbgaa
open Go.RowKit Go.Maps

/-! ### the content -/
/-- Keys with their writes, as keys rise. -/
abbrev Wc := List (List UInt8 × Ver)
/-- One write laid in its place. -/
def insW (x : List UInt8 × Ver) : Wc → Wc
  | [] => [x]
  | e :: r => if bytesBefore x.1 e.1 then x :: e :: r else e :: insW x r
def layA (C : Wc) (x : List UInt8 × Ver) : Wc := insW x (C.filter fun e => !(e.1 == x.1))
def getW (C : Wc) (k : List UInt8) : Option Ver := (C.find? fun e => e.1 == k).map (·.2)
/-- What is wrong with a write. -/
def errA (k : ByteArray) (z : List Nat) : Int := if k.size < 1 ∨ 255 < k.size then 140 else if 4096 < z.length then 141 else 0
def RiseW (C : Wc) : Prop := C.Pairwise fun e f => bytesBefore e.1 f.1 = true
/-- It is not too great. -/
structure FineW (C : Wc) : Prop where
  len : C.length ≤ 4000000000000
  kl : ∀ e ∈ C, 1 ≤ e.1.length ∧ e.1.length ≤ 255
  vl : ∀ e ∈ C, e.2.b.length ≤ 4096
  n0 : ∀ e ∈ C, e.2.n = 0

/-! ### memory -/
/-- The key of a version. -/
def ky (x : Vn) : List UInt8 := x.k.data.toList
def plainA (a : Option Addr) : Prop := a = none ∨ ∃ g o, a = some ⟨g, o, none⟩
def datP (a : Option Addr) : DataW Unit := match a with | none => .nil | some p => .agg [.lit (.int .i64 (p.block : Int)), .lit (.int .i64 (p.off : Int))]
/-- How a version reads, as an element of the map. -/
def datX (x : Vn) : DataW Unit := .agg [.lit (.string x.k.data.toList), .lit (.int .i64 x.n), datP x.a, .lit (.int .i64 (x.z.length : Int)), .lit (.int .i64 (x.c : Int)), .lit (.bool x.d)]
/-- The shape of an element. -/
structure Vh where
  k : ByteArray
  n : Int
  a : Option Addr
  l : Nat
  c : Nat
  d : Bool
def mkVh (x : Vh) : Value := .agg #[.string x.k, .int .i64 x.n, .slice x.a x.l x.c, .bool x.d]
def verR (v : Value) : Option (DataW Unit × List MemPlace) :=
  match v with
  | .agg ⟨[.string k, .int .i64 n, .slice none l c, .bool d]⟩ => some (.agg [.lit (.string k.data.toList), .lit (.int .i64 n), .nil, .lit (.int .i64 (l : Int)), .lit (.int .i64 (c : Int)), .lit (.bool d)], [])
  | .agg ⟨[.string k, .int .i64 n, .slice (some ⟨g, o, none⟩) l c, .bool d]⟩ => some (.agg [.lit (.string k.data.toList), .lit (.int .i64 n), .agg [.lit (.int .i64 (g : Int)), .lit (.int .i64 (o : Int))], .lit (.int .i64 (l : Int)), .lit (.int .i64 (c : Int)), .lit (.bool d)], [])
  | _ => none
theorem verR_ok (x : Vn) (ha : plainA x.a) : verR (verV x) = some (datX x, []) := by
  obtain ⟨k, n, a, z, c, d⟩ := x
  rcases ha with h | ⟨g, o, h⟩
  · simp only at h; subst h; rfl
  · simp only at h; subst h; rfl
theorem verR_shape (v : Value) (y : DataW Unit × List MemPlace) (h : verR v = some y) : ∃ c : Vh, v = mkVh c := by
  unfold verR at h
  split at h
  · exact ⟨⟨_, _, _, _, _, _⟩, rfl⟩
  · exact ⟨⟨_, _, _, _, _, _⟩, rfl⟩
  · cases h
theorem verR_inv {v : Value} {x : Vn} {ps : List MemPlace} (ha : plainA x.a) (h : verR v = some (datX x, ps)) : v = verV x := by
  obtain ⟨k, n, a, z, c, d⟩ := x
  unfold verR at h
  split at h
  · next k1 n1 l1 c1 d1 =>
    simp only [datX, datP, Option.some.injEq, Prod.mk.injEq, DataW.agg.injEq, List.cons.injEq, DataW.lit.injEq, Lit.string.injEq, Lit.int.injEq, Lit.bool.injEq, true_and, and_true] at h
    obtain ⟨⟨h1, h2, h3, h4, h5, h6⟩, _⟩ := h
    rcases ha with ha | ⟨g, o, ha⟩
    · simp only at ha
      have e1 : k1 = k := same_ba h1
      have e4 : l1 = z.length := by omega
      have e5 : c1 = c := by omega
      subst e1; subst e4; subst e5; subst h2; subst h6; subst ha; rfl
    · simp only at ha; rw [ha] at h3; cases h3
  · next k1 n1 g1 o1 l1 c1 d1 =>
    simp only [datX, datP, Option.some.injEq, Prod.mk.injEq, DataW.agg.injEq, List.cons.injEq, DataW.lit.injEq, Lit.string.injEq, Lit.int.injEq, Lit.bool.injEq, true_and, and_true] at h
    obtain ⟨⟨h1, h2, h3, h4, h5, h6⟩, _⟩ := h
    rcases ha with ha | ⟨g, o, ha⟩
    · simp only at ha; rw [ha] at h3; cases h3
    · simp only at ha
      rw [ha] at h3
      simp only [DataW.agg.injEq, List.cons.injEq, DataW.lit.injEq, Lit.int.injEq, true_and, and_true] at h3
      have e1 : k1 = k := same_ba h1
      have e4 : l1 = z.length := by omega
      have e5 : c1 = c := by omega
      have e7 : g1 = g := by omega
      have e8 : o1 = o := by omega
      subst e1; subst e4; subst e5; subst h2; subst h6; subst e7; subst e8; subst ha; rfl
  · cases h
/-- What the map reads as. -/
def datW (M : List Vn) : DataW Unit := .map (M.map fun e => (.string (ky e), datX e))
def vnOf (M : List Vn) (k : List UInt8) : Option Vn := M.find? fun e => ky e == k
theorem vnOf_some {M : List Vn} {k : List UInt8} {e : Vn} (h : vnOf M k = some e) : e ∈ M ∧ ky e = k := by
  unfold vnOf at h
  exact ⟨List.mem_of_find?_eq_some h, by simpa using List.find?_some h⟩
theorem vnOf_none {M : List Vn} {k : List UInt8} (h : vnOf M k = none) : ∀ e ∈ M, ky e ≠ k := by
  unfold vnOf at h
  intro e he
  have := List.find?_eq_none.1 h e he
  simpa using this
theorem getW_says (M : List Vn) (k : List UInt8) : getW (saysV M) k = (vnOf M k).map verOf := by
  unfold getW saysV vnOf
  rw [List.find?_map, Option.map_map]; rfl
theorem atKey_datW (M : List Vn) (k : List UInt8) (z : DataW Unit) : (datW M).atKey (.string k) z = ((vnOf M k).map datX).getD z := by
  unfold datW DataW.atKey vnOf
  simp only []
  rw [List.find?_map]
  have e : ((fun p : Lit × DataW Unit => p.1.sameKey (.string k)) ∘ fun e : Vn => ((Lit.string (ky e), datX e) : Lit × DataW Unit)) = fun e : Vn => ky e == k := by
    funext e; simp [Lit.sameKey]
  rw [e]
  cases M.find? (fun e : Vn => ky e == k) <;> rfl
theorem has_datW (M : List Vn) (k : List UInt8) : Maps.has (datW M) (.string k) = (vnOf M k).isSome := by
  unfold Maps.has datW vnOf
  simp only [List.any_map]
  rw [List.isSome_find?]
  congr 1
theorem size_datW (M : List Vn) : Maps.size (datW M) = M.length := by simp [Maps.size, datW]

def insX (x : Vn) : List Vn → List Vn
  | [] => [x]
  | e :: r => if bytesBefore (ky x) (ky e) then x :: e :: r else e :: insX x r
def layM (M : List Vn) (x : Vn) : List Vn := insX x (M.filter fun e => !(ky e == ky x))
theorem mem_insX (x : Vn) (M : List Vn) (y : Vn) : y ∈ insX x M ↔ y = x ∨ y ∈ M := by
  induction M with
  | nil => simp [insX]
  | cons f r ih =>
    unfold insX
    split
    · simp
    · rw [List.mem_cons, ih, List.mem_cons]
      constructor
      · rintro (h | h | h)
        · exact .inr (.inl h)
        · exact .inl h
        · exact .inr (.inr h)
      · rintro (h | h | h)
        · exact .inr (.inl h)
        · exact .inl h
        · exact .inr (.inr h)
theorem insX_len (x : Vn) (M : List Vn) : (insX x M).length = M.length + 1 := by
  induction M with
  | nil => rfl
  | cons f r ih => unfold insX; split <;> simp [ih]
theorem says_insX (x : Vn) (M : List Vn) : saysV (insX x M) = insW (ky x, verOf x) (saysV M) := by
  induction M with
  | nil => rfl
  | cons f r ih =>
    show saysV (insX x (f :: r)) = insW (ky x, verOf x) ((ky f, verOf f) :: saysV r)
    unfold insX insW
    by_cases h : bytesBefore (ky x) (ky f) = true
    · rw [if_pos h, if_pos h]; rfl
    · rw [if_neg h, if_neg h, ← ih]; rfl
theorem says_layM (x : Vn) (M : List Vn) : saysV (layM M x) = layA (saysV M) (ky x, verOf x) := by
  unfold layM layA
  rw [says_insX]
  congr 1
  unfold saysV
  rw [List.filter_map]; rfl
theorem layM_len (x : Vn) (M : List Vn) : (layM M x).length ≤ M.length + 1 := by
  unfold layM; rw [insX_len]; exact Nat.succ_le_succ (List.length_filter_le _ _)
theorem mem_layM {x : Vn} {M : List Vn} {y : Vn} (h : y ∈ layM M x) : y = x ∨ y ∈ M := by
  unfold layM at h
  rcases (mem_insX _ _ _).1 h with h | h
  · exact .inl h
  · exact .inr (List.mem_filter.1 h).1
theorem datW_layM (x : Vn) (M : List Vn) : datW (layM M x) = (datW M).put (.string (ky x)) (datX x) := by
  unfold datW DataW.put layM
  simp only []
  congr 1
  rw [List.filter_map]
  have e : ((fun p : Lit × DataW Unit => !p.1.sameKey (.string (ky x))) ∘ fun e : Vn => ((Lit.string (ky e), datX e) : Lit × DataW Unit)) = fun e : Vn => !(ky e == ky x) := by
    funext e; simp [Lit.sameKey]
  rw [e]
  generalize M.filter (fun e : Vn => !(ky e == ky x)) = L
  induction L with
  | nil => rfl
  | cons f r ih =>
    unfold insX
    rw [List.map_cons]
    unfold DataW.insert
    by_cases h : bytesBefore (ky x) (ky f) = true
    · rw [if_pos h, if_pos (by exact h)]; rfl
    · rw [if_neg h, if_neg (by exact h), List.map_cons, ih]
theorem insW_rise {x : List UInt8 × Ver} {C : Wc} (h : RiseW C) (hn : ∀ f ∈ C, f.1 ≠ x.1) : RiseW (insW x C) := by
  unfold RiseW at *
  induction C with
  | nil => exact List.pairwise_singleton _ _
  | cons f r ih =>
    obtain ⟨h1, h2⟩ := List.pairwise_cons.1 h
    unfold insW
    by_cases hb : bytesBefore x.1 f.1 = true
    · rw [if_pos hb]
      refine List.pairwise_cons.2 ⟨fun g hg => ?_, h⟩
      rcases List.mem_cons.1 hg with rfl | hg
      · exact hb
      · exact WideShapes.bytes_trans _ _ _ hb (h1 g hg)
    · rw [if_neg hb]
      refine List.pairwise_cons.2 ⟨fun g hg => ?_, ih h2 fun g hg => hn g (List.mem_cons_of_mem _ hg)⟩
      have hm : ∀ (C : Wc) (y : List UInt8 × Ver), y ∈ insW x C → y = x ∨ y ∈ C := fun C y hy => by
        induction C with
        | nil => unfold insW at hy; simpa using hy
        | cons a t iht =>
          unfold insW at hy
          split at hy
          · rcases List.mem_cons.1 hy with h | h
            · exact .inl h
            · exact .inr h
          · rcases List.mem_cons.1 hy with h | h
            · exact .inr (by rw [h]; exact List.mem_cons_self ..)
            · rcases iht h with h | h
              · exact .inl h
              · exact .inr (List.mem_cons_of_mem _ h)
      rcases hm r g hg with rfl | hg
      · rcases WideAt.bytes_total f.1 g.1 (hn f (List.mem_cons_self ..)) with h3 | h3
        · exact h3
        · exact absurd h3 hb
      · exact h1 g hg
theorem layA_rise {x : List UInt8 × Ver} {C : Wc} (h : RiseW C) : RiseW (layA C x) := by
  unfold layA
  refine insW_rise (h.sublist List.filter_sublist) fun f hf => ?_
  simpa using (List.mem_filter.1 hf).2

/-- An entry of the map. -/
structure EntOk (w : World) (F : Nat → Prop) (e : Vn) : Prop where
  b : OwnB w 0 (.slice e.a e.z.length e.c) e.z
  f : ∀ j, (Value.slice e.a e.z.length e.c).ownBlock = some j → F j
  p : plainA e.a
/-- The set in block s: its map is mb. -/
structure Wst (w : World) (F : Nat → Prop) (s : Nat) (mb : Option Nat) (M : List Vn) : Prop where
  blk : w.heap[s]? = some (.cells #[.map mb] 32 (0, 0))
  nomap : mb = none → M = []
  map : ∀ b, mb = some b → w.ownsMap Try.prog 9 verR b M.length (datW M) ∧ F b
  each : ∀ e ∈ M, EntOk w F e
  rise : RiseW (saysV M)
  fine : FineW (saysV M)
  fs : F s
  lt : ∀ j, F j → j < w.heap.size
/-- What there is of it later. -/
def upto (F : Nat → Prop) (w w' : World) (j : Nat) : Prop := F j ∨ (w.heap.size ≤ j ∧ j < w'.heap.size)

theorem OwnB.plain {w : World} {B : Nat} {a : Option Addr} {n c : Nat} {zs : List Nat} (h : OwnB w B (.slice a n c) zs) : plainA a := by
  rcases h.2 with ⟨h, _⟩ | ⟨g, cap, cur, h, _⟩
  · cases h; exact .inl rfl
  · cases h; exact .inr ⟨_, _, rfl⟩

section
variable {w w' : World} {F : Nat → Prop} {s : Nat} {mb : Option Nat} {M : List Vn}
theorem EntOk.hold {e : Vn} (h : EntOk w F e) (hk : ∀ j, F j → w'.heap[j]? = w.heap[j]?) : EntOk w' F e := ⟨h.b.hold fun j hj => hk j (h.f j hj), h.f, h.p⟩
theorem EntOk.mono {G : Nat → Prop} {e : Vn} (h : EntOk w F e) (hg : ∀ j, F j → G j) : EntOk w G e := ⟨h.b, fun j hj => hg j (h.f j hj), h.p⟩
theorem Wst.hold (h : Wst w F s mb M) (hk : ∀ j, F j → w'.heap[j]? = w.heap[j]?) (hs : w.heap.size ≤ w'.heap.size) : Wst w' F s mb M :=
  ⟨(hk s h.fs).trans h.blk, h.nomap, fun b e => ⟨ownsMap_hold (h.map b e).1 (hk b (h.map b e).2), (h.map b e).2⟩, fun e he => (h.each e he).hold hk, h.rise, h.fine, h.fs, fun j hj => Nat.lt_of_lt_of_le (h.lt j hj) hs⟩
theorem Wst.below (h : Wst w F s mb M) (hb : Below w.heap.size w w') : Wst w' F s mb M := h.hold (fun j hj => hb.block j (h.lt j hj)) hb.size
theorem Wst.chg {S : Nat → Prop} (h : Wst w F s mb M) (hc : Chg S w w') (hs : ∀ j, S j → ¬ F j) : Wst w' F s mb M := h.hold (fun j hj => hc.block j (h.lt j hj) fun e => hs j e hj) hc.size
theorem Wst.mono {G : Nat → Prop} (h : Wst w F s mb M) (hg : ∀ j, F j → G j) (hl : ∀ j, G j → j < w.heap.size) : Wst w G s mb M :=
  ⟨h.blk, h.nomap, fun b e => ⟨(h.map b e).1, hg _ (h.map b e).2⟩, fun e he => (h.each e he).mono hg, h.rise, h.fine, hg _ h.fs, hl⟩
theorem Wst.slt (h : Wst w F s mb M) : s < w.heap.size := (Array.getElem?_eq_some_iff.1 h.blk).1
theorem Wst.cell (h : Wst w F s mb M) : w.cell? ⟨s, 0, none⟩ = some (.map mb) ∧ ∀ j, w.frozen? ⟨s, j, none⟩ = false := ⟨cell_of_row _ _ _ _ _ _ h.blk, fun _ => frozen_of_row _ _ _ _ _ h.blk⟩
theorem Wst.len (h : Wst w F s mb M) : M.length ≤ 4000000000000 := by have := h.fine.len; unfold saysV at this; simpa using this

theorem zeroVer (w : World) : (zeroValue 41).run Try.prog w = .ok (verV zeroVn) w := by kernel_rfl
/-- A key looked up. -/
theorem look_any (h : Wst w F s mb M) (key : ByteArray) (hk : key.size ≤ maxLen) : (Instr.lookup 30 (.map mb) (.string key) true).run Try.prog w = .ok (.tuple #[verV ((vnOf M key.data.toList).getD zeroVn), .bool (vnOf M key.data.toList).isSome]) w := by
  have hkey := WideMaps.keyOf_string_mk (P := Try.prog) Try.underlying9 hk
  cases mb with
  | none =>
    have hM := h.nomap rfl
    subst hM
    exact Maps.look_nil true law_string Try.underlying30 (zeroVer w) hkey
  | some b =>
    obtain ⟨hown, _⟩ := h.map b rfl
    obtain ⟨v, ps, hrun, hR⟩ := hown.look_ok law_string Try.underlying30 (zeroVer w) (verR_ok zeroVn (.inl rfl)) hkey
    rw [atKey_datW] at hR
    rw [has_datW] at hrun
    cases he : vnOf M key.data.toList with
    | none =>
      rw [he] at hR hrun
      obtain rfl := verR_inv (x := zeroVn) (.inl rfl) hR
      exact hrun
    | some e =>
      rw [he] at hR hrun
      obtain rfl := verR_inv (x := e) (h.each e (vnOf_some he).1).p hR
      exact hrun
theorem look_plain (h : Wst w F s mb M) (key : ByteArray) (hk : key.size ≤ maxLen) : (Instr.lookup 30 (.map mb) (.string key) false).run Try.prog w = .ok (verV ((vnOf M key.data.toList).getD zeroVn)) w := by
  have hkey := WideMaps.keyOf_string_mk (P := Try.prog) Try.underlying9 hk
  cases mb with
  | none =>
    have hM := h.nomap rfl
    subst hM
    exact Maps.look_nil false law_string Try.underlying30 (zeroVer w) hkey
  | some b =>
    obtain ⟨hown, _⟩ := h.map b rfl
    obtain ⟨v, ps, hrun, hR⟩ := hown.lookup law_string Try.underlying30 (zeroVer w) (verR_ok zeroVn (.inl rfl)) hkey
    rw [atKey_datW] at hR
    cases he : vnOf M key.data.toList with
    | none =>
      rw [he] at hR
      obtain rfl := verR_inv (x := zeroVn) (.inl rfl) hR
      exact hrun
    | some e =>
      rw [he] at hR
      obtain rfl := verR_inv (x := e) (h.each e (vnOf_some he).1).p hR
      exact hrun
theorem len_map (h : Wst w F s mb M) (ty : TypeId) : (Builtin.len_ #[30] ty #[.map mb]).run Try.prog w = .ok (.int .i64 (M.length : Int)) w := by
  cases mb with
  | none => rw [h.nomap rfl]; exact Maps.len_nil Try.underlying30 ty
  | some b => have := (h.map b rfl).1.len Try.underlying30 ty; rwa [size_datW] at this
end

end Go.Proofs.Ytbafjkanbbcbgaa
