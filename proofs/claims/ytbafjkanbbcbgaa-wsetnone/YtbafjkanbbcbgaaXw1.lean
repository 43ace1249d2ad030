/- Versions and pairs in memory: lists of them; copies of bytes and texts. -/
import Derived.Test.YtbafjkanbbcbgaaIn1
import Derived.Test.YtbafjkanbbcbgaaSl1
import Derived.Sort.KeysCollected
import Derived.Maps.OwnSet
import Derived.Maps.RangeWalk
import Derived.Lib.Strings
import Derived.Lib.Walk
import Derived.Lib.BufferWrite
import Derived.Lib.UnsafeStr
import Derived.Laws.MakeOwn
namespace Go.Proofs.Ytbafjkanbbcbgaa
open Go.RowKit Go.Maps

/-- A version of a key: its stamp, its bytes, whether it is dead. -/
structure Ver where
  n : Int
  b : List Nat
  d : Bool
theorem law_string : Keyed Try.prog 9 := string_keyed Try.underlying9
theorem OwnB.hold {w w' : World} {base : Nat} {v : Value} {zs : List Nat} (h : OwnB w base v zs) (hk : ∀ j, v.ownBlock = some j → w'.heap[j]? = w.heap[j]?) : OwnB w' base v zs := by
  refine ⟨h.1, ?_⟩
  rcases h.2 with h2 | ⟨g, cap, cur, rfl, h3, hh, h4⟩
  · exact .inl h2
  · exact .inr ⟨g, cap, cur, rfl, h3, (hk g rfl).trans hh, h4⟩
theorem ownsMap_hold {w w' : World} {P : Program} {k : TypeId} {R : Value → Option (DataW Unit × List MemPlace)} {b n : Nat} {D : DataW Unit} (h : w.ownsMap P k R b n D) (hb : w'.heap[b]? = w.heap[b]?) : w'.ownsMap P k R b n D := by
  obtain ⟨es, clock, h1, h2⟩ := h
  exact ⟨es, clock, hb.trans h1, h2⟩
theorem before_ne {a b : List UInt8} (h : bytesBefore a b = true) : a ≠ b := fun e => by
  subst e; rw [WideAt.bytes_irrefl] at h; cases h
theorem OwnB.typed {w : World} {base : Nat} {v : Value} {zs : List Nat} (h : OwnB w base v zs) {j : Nat} (hj : v.ownBlock = some j) : ∃ cur, w.heap[j]? = some (.cells cur 5 (0, 0)) := by
  rcases h.2 with ⟨rfl, _⟩ | ⟨g, cap, cur, rfl, _, hh, _⟩
  · cases hj
  · cases hj; exact ⟨cur, hh⟩

set_option maxRecDepth 100000 in
set_option maxHeartbeats 400000 in
theorem bclone_any (a : Option Addr) (cap : Nat) (zs : List Nat) (w : World) (hr : RowB w a zs) (hl : zs.length ≤ 140737488355328) (hnil : a = none → zs.length = 0 ∧ cap = 0) :
    Calls Try.prog 44 #[.slice a zs.length cap] w fun e w' => (∃ v, e = .returned v ∧ OwnB w' w.heap.size v zs) ∧ Below w.heap.size w w' := by
  have hb0 : Below w.heap.size w (w.alloc (.cells #[] 5)) := (Below.refl _ _).alloc (Nat.le_refl _) _
  have hr0 := hr.below hb0
  have hn1 := fun (w : World) (a : Option Addr) (n c : Nat) => Lib.run_eql_slice_nil (P := Try.prog) w 34 5 a n c 0 0 Try.underlying34
  cases a with
  | none =>
    obtain ⟨h1, h2⟩ := hnil rfl
    have hzs : zs = [] := List.eq_nil_of_length_eq_zero h1
    subst hzs
    subst h2
    go_enter Try.func44, Try.ntmps44
    go_wp2
    go_ret
    exact ⟨⟨_, rfl, World.ownsRow_nil _ _ _ _⟩, Below.refl _ _⟩
  | some ad =>
    clear hr
    go_enter Try.func44, Try.ntmps44
    go_wp2_with (at_builtin; refine wpList_append_row _ rfl _ _ rfl w.heap.size _ [] rfl (own_empty w) (some ad) cap zs rfl hr0 hnil (by simp; omega) hb0.size ?_; intro vc w0 hown0 hg0 hat0)
    go_ret
    exact ⟨⟨_, rfl, by rw [List.nil_append] at hown0; exact hown0⟩, hb0.grown hg0 hb0.size (fun j e => by cases e; exact Nat.le_refl _)⟩

set_option maxHeartbeats 2000000 in
set_option maxRecDepth 100000 in
/-- A copy of a text is that text; one block is made. -/
theorem textCopy_any (s : ByteArray) (w : World) (hlim : s.size ≤ 140737488355328) : Calls Try.prog 57 #[.string s] w fun e w' => e = .returned (.string s) ∧ Below w.heap.size w w' := by
  by_cases h0 : s.size = 0
  · have hs : s = ⟨#[]⟩ := by
      apply ByteArray.ext
      exact Array.eq_empty_of_size_eq_zero h0
    subst hs
    go_enter Try.func57, Try.ntmps57
    go_wp2
    go_ret
    exact ⟨rfl, Below.refl _ _⟩
  · obtain ⟨i0, hi, hz0, hz1, hz2⟩ := info_parts infoB
    have hinfo : (Try.prog.info? 5).map (·.size) = some 1 := by rw [hi]; simp [hz1]
    have hco : Try.prog.cellsOf 5 = 1 := by simp [Program.cellsOf, hi, hz1]
    obtain ⟨M, hM⟩ : ∃ M, M = madeCells (Value.int .u8 0).cells (((s.size : Nat) : Int).toNat * i0.size) := ⟨_, rfl⟩
    have hMs : M.size = s.size := by rw [hM, size_madeCells, hz1]; simp
    have hmk : ∀ W : World, (Instr.makeSlice 34 (.int .i64 (s.size : Int)) (.int .i64 (s.size : Int))).run Try.prog W = .ok (.slice (some ⟨W.heap.size, 0, none⟩) s.size s.size) (W.alloc (.cells M 5)) := fun W => by
      have h := run_make (P := Try.prog) W 34 5 i0 (.int .u8 0) Try.underlying34 hi hz0 .i64 .i64 (s.size : Int) (s.size : Int) (by omega) (by omega) (by rw [hz2]; omega) (by omega)
      rw [← hM] at h
      simpa using h
    clear hM
    have hcp := Lib.run_copy_row_string (P := Try.prog) (w.alloc (.cells M 5)) 34 9 3 5 w.heap.size 0 s.size s.size s M 5 Try.underlying34 hinfo (heap_alloc_new w _) (Nat.le_refl _) (by omega)
    obtain ⟨Y, hY⟩ : ∃ Y, Y = (M.toList.take 0 ++ Lib.byteCells s.data.toList ++ M.toList.drop (0 + s.size)).toArray := ⟨_, rfl⟩
    rw [← hY] at hcp
    have hYl : Y.toList = Lib.byteCells s.data.toList := by
      rw [hY, List.toList_toArray, List.take_zero, List.nil_append, List.drop_of_length_le (by rw [Array.length_toList]; omega), List.append_nil]
    have hYs : Y.size = s.size := by rw [← Array.length_toList, hYl, Lib.byteCells_length, ← Lib.size_eq]
    have hgY : ((w.alloc (.cells M 5)).setRow w.heap.size Y).heap[w.heap.size]? = some (.cells Y 5 (0, 0)) := setRow_heap _ _ M _ 5 (0, 0) (heap_alloc_new w _)
    have hne : s.data.toList ≠ [] := fun e => h0 (by rw [Lib.size_eq, e]; rfl)
    have hUS := Lib.run_unsafeString_row (P := Try.prog) ((w.alloc (.cells M 5)).setRow w.heap.size Y) 106 3 9 5 Try.underlying106 hco w.heap.size Y.size (by unfold World.shape?; rw [hgY]) s.data.toList hne (by rw [← Lib.size_eq]; omega) (by rw [← Lib.size_eq]; omega)
      (fun j x hx => Lib.cells_of_row hgY Y.size j _ (by rw [List.take_of_length_le (by rw [Array.length_toList]; exact Nat.le_refl _), hYl]; simp [Lib.byteCells, hx]))
    rw [← Lib.size_eq] at hUS
    clear hY
    go_enter Try.func57, Try.ntmps57
    go_wp2
    go_ret
    have hb1 : Below w.heap.size w (w.alloc (.cells M 5)) := (Below.refl _ w).alloc (Nat.le_refl _) _
    have hb2 : Below w.heap.size (w.alloc (.cells M 5)) ((w.alloc (.cells M 5)).setRow w.heap.size Y) := ⟨rfl, rfl, rfl, by simp, fun k hk => setRow_other _ _ _ _ (by omega)⟩
    exact ⟨rfl, Lib.below_freeze (hb1.trans hb2) (p := ⟨w.heap.size, 0, none⟩) (Nat.le_refl _) _⟩
set_option maxHeartbeats 400000 in
set_option maxRecDepth 100000 in
theorem textClone_any (s : ByteArray) (w : World) (hlim : s.size ≤ 140737488355328) : Calls Try.prog 50 #[.string s] w fun e w' => e = .returned (.string s) ∧ Below w.heap.size w w' := by
  have h := textCopy_any s w hlim
  go_enter Try.func50, Try.ntmps50
  go_wp2_with fail
  refine h.mono ?_
  rintro e w' ⟨rfl, hb⟩
  go_wp2_with fail
  go_ret
  exact ⟨rfl, hb⟩
structure Vn where
  k : ByteArray
  n : Int
  a : Option Addr
  z : List Nat
  c : Nat
  d : Bool
def verV (x : Vn) : Value := .agg #[.string x.k, .int .i64 x.n, .slice x.a x.z.length x.c, .bool x.d]
structure VnOk (w : World) (x : Vn) : Prop where
  k : x.k.size ≤ maxLen
  n : -9223372036854775808 ≤ x.n ∧ x.n ≤ 9223372036854775807
  row : RowB w x.a x.z
  nil : x.a = none → x.z.length = 0 ∧ x.c = 0
  len : x.z.length ≤ 140737488355328

def verOf (x : Vn) : Ver := ⟨x.n, x.z, x.d⟩

theorem ranges_hold {w w' : World} {R : Value → Option (DataW Unit × List MemPlace)} {b r n : Nat} {D : DataW Unit} {left : Lit → Bool} {cnt : Nat} (h : w.ranges Try.prog 9 R b r n D left cnt) (hb : w'.heap[b]? = w.heap[b]?) (hr : w'.heap[r]? = w.heap[r]?) : w'.ranges Try.prog 9 R b r n D left cnt := by
  obtain ⟨es, clock, since, seen, c0, h1, h2, h3, h4, h5, h6⟩ := h
  exact ⟨es, clock, since, seen, c0, hb.trans h1, h2, h3, h4, hr.trans h5, h6⟩
theorem invK_str : ∀ key kl, keyOf Try.prog 9 key = some kl → ∃ x : List UInt8, key = encStr x := fun key kl hk => by
  obtain ⟨x, hx, _⟩ := Maps.keyOf_str Try.underlying9 hk; exact ⟨x, hx⟩
theorem grown_below {w w' : World} {r B : Nat} (h : w.grownBy w' (some r)) (hr : B ≤ r) (hB : B ≤ w.heap.size) : Below B w w' := (Below.refl B w).grown h hB fun k e => by cases e; exact hr

def zeroVn : Vn := ⟨⟨#[]⟩, 0, none, [], 0, false⟩
def quadV (x : Vn) : List Value := [.string x.k, .int .i64 x.n, .slice x.a x.z.length x.c, .bool x.d]
def celV (ys : List Vn) : List Value := ys.flatMap quadV
def vn (ys : List Vn) (i : Nat) : Vn := ys.getD i zeroVn
theorem celV_len (xs : List Vn) : (celV xs).length = xs.length * 4 := by
  induction xs with
  | nil => rfl
  | cons x xs ih => show (quadV x ++ celV xs).length = _; rw [List.length_append, ih]; simp [quadV]; omega
theorem celV_append (xs ys : List Vn) : celV (xs ++ ys) = celV xs ++ celV ys := by simp [celV]
theorem celV_one (x : Vn) : celV [x] = quadV x := by simp [celV]
theorem celV_at {xs : List Vn} : ∀ {i : Nat} (_ : i < xs.length) (j : Nat) (_ : j < 4), (celV xs)[i * 4 + j]? = (quadV (vn xs i))[j]? := by
  induction xs with
  | nil => intro i h; simp at h
  | cons x xs ih =>
    intro i h j hj
    show (quadV x ++ celV xs)[i * 4 + j]? = _
    cases i with
    | zero => rw [List.getElem?_append_left (by simp [quadV]; omega)]; simp [vn]
    | succ i =>
      rw [List.getElem?_append_right (by simp [quadV]; omega)]
      have := ih (i := i) (by simpa using h) j hj
      rw [show (i + 1) * 4 + j - (quadV x).length = i * 4 + j by simp [quadV]; omega, this]
      simp [vn]
theorem vn_get {xs : List Vn} {i : Nat} (hi : i < xs.length) : xs[i] = vn xs i := by
  unfold vn; rw [List.getD_eq_getElem?_getD, List.getElem?_eq_getElem hi]; rfl
theorem vn_set_self {xs : List Vn} {i : Nat} (h : i < xs.length) (x : Vn) : vn (xs.set i x) i = x := by
  unfold vn; rw [List.getD_eq_getElem?_getD, List.getElem?_set_self h]; rfl
theorem vn_set_ne {xs : List Vn} {i j : Nat} (h : i ≠ j) (x : Vn) : vn (xs.set i x) j = vn xs j := by
  unfold vn; rw [List.getD_eq_getElem?_getD, List.getD_eq_getElem?_getD, List.getElem?_set_ne h]
theorem eq_of_vn {xs ys : List Vn} (hl : xs.length = ys.length) (h : ∀ i, i < xs.length → vn xs i = vn ys i) : xs = ys := by
  apply List.ext_getElem hl
  intro i h1 h2
  rw [vn_get h1, vn_get h2]; exact h i h1
theorem celV_set {xs : List Vn} {i : Nat} (hi : i < xs.length) (x : Vn) : ((((celV xs).set (i * 4) (.string x.k)).set (i * 4 + 1) (.int .i64 x.n)).set (i * 4 + 2) (.slice x.a x.z.length x.c)).set (i * 4 + 3) (.bool x.d) = celV (xs.set i x) := by
  apply List.ext_getElem?
  intro m
  have hl := celV_len xs
  have hl2 := celV_len (xs.set i x)
  rw [List.length_set] at hl2
  by_cases hm : m < xs.length * 4
  · have hq : m / 4 < xs.length := by omega
    have hr : m % 4 < 4 := by omega
    have hms : m = m / 4 * 4 + m % 4 := by omega
    rw [hms, celV_at (by rw [List.length_set]; exact hq) _ hr]
    by_cases e : m / 4 = i
    · rw [e, vn_set_self hi]
      have h4 : m % 4 = 0 ∨ m % 4 = 1 ∨ m % 4 = 2 ∨ m % 4 = 3 := by omega
      rcases h4 with h4 | h4 | h4 | h4 <;> rw [h4]
      · rw [List.getElem?_set_ne (by omega), List.getElem?_set_ne (by omega), List.getElem?_set_ne (by omega), Nat.add_zero, List.getElem?_set_self (by omega)]; rfl
      · rw [List.getElem?_set_ne (by omega), List.getElem?_set_ne (by omega), List.getElem?_set_self (by rw [List.length_set]; omega)]; rfl
      · rw [List.getElem?_set_ne (by omega), List.getElem?_set_self (by rw [List.length_set, List.length_set]; omega)]; rfl
      · rw [List.getElem?_set_self (by rw [List.length_set, List.length_set, List.length_set]; omega)]; rfl
    · rw [vn_set_ne (Ne.symm e), List.getElem?_set_ne (by omega), List.getElem?_set_ne (by omega), List.getElem?_set_ne (by omega), List.getElem?_set_ne (by omega), celV_at hq _ hr]
  · rw [List.getElem?_eq_none (by simp; omega), List.getElem?_eq_none (by omega)]
/-- A list of versions of one's own. -/
def OwV (w : World) (B : Nat) (v : Value) (ys : List Vn) : Prop := OwnS w B 41 4 v ys.length (celV ys)
/-- Each one's bytes lie in memory from block B on. -/
def ValV (w : World) (B : Nat) (ys : List Vn) : Prop := ∀ y ∈ ys, OwnB w B (.slice y.a y.z.length y.c) y.z
theorem OwV.set {w : World} {B g o cap : Nat} {ys : List Vn} (h : OwV w B (.slice (some ⟨g, o, none⟩) ys.length cap) ys) {i : Nat} (hi : i < ys.length) (x : Vn) :
    OwV ((((w.setCell ⟨g, o + i * 4, none⟩ (.string x.k)).setCell ⟨g, o + i * 4 + 1, none⟩ (.int .i64 x.n)).setCell ⟨g, o + i * 4 + 2, none⟩ (.slice x.a x.z.length x.c)).setCell ⟨g, o + i * 4 + 3, none⟩ (.bool x.d)) B (.slice (some ⟨g, o, none⟩) ys.length cap) (ys.set i x) := by
  have hl := celV_len ys
  have h1 := OwnS.set h (i * 4) (by omega) (.string x.k)
  have h2 := OwnS.set h1 (i * 4 + 1) (by rw [List.length_set]; omega) (.int .i64 x.n)
  have h3 := OwnS.set h2 (i * 4 + 2) (by rw [List.length_set, List.length_set]; omega) (.slice x.a x.z.length x.c)
  have h4 := OwnS.set h3 (i * 4 + 3) (by rw [List.length_set, List.length_set, List.length_set]; omega) (.bool x.d)
  rw [celV_set hi] at h4
  unfold OwV
  rw [List.length_set]
  exact h4
theorem OwV.cells {w : World} {B g o cap : Nat} {ys : List Vn} (h : OwV w B (.slice (some ⟨g, o, none⟩) ys.length cap) ys) {i : Nat} (hi : i < ys.length) :
    w.cell? ⟨g, o + i * 4, none⟩ = some (.string (vn ys i).k) ∧ w.cell? ⟨g, o + i * 4 + 1, none⟩ = some (.int .i64 (vn ys i).n) ∧ w.cell? ⟨g, o + i * 4 + 2, none⟩ = some (.slice (vn ys i).a (vn ys i).z.length (vn ys i).c) ∧ w.cell? ⟨g, o + i * 4 + 3, none⟩ = some (.bool (vn ys i).d) ∧ g < w.heap.size ∧ ∀ j, w.frozen? ⟨g, j, none⟩ = false := by
  rcases h.2 with ⟨h2, _⟩ | ⟨g', o', cap', cur, e1, hb, hh, hn, hc, hs, ht⟩
  · cases h2
  · cases e1
    have hl := celV_len ys
    refine ⟨?_, ?_, ?_, ?_, (Array.getElem?_eq_some_iff.1 hh).1, fun j => frozen_of_row _ _ _ _ _ hh⟩
    · rw [cell_of_row _ _ _ _ _ _ hh, ht (i * 4) (by omega)]; exact celV_at hi 0 (by omega)
    · rw [cell_of_row _ _ _ _ _ _ hh, Nat.add_assoc, ht (i * 4 + 1) (by omega)]; exact celV_at hi 1 (by omega)
    · rw [cell_of_row _ _ _ _ _ _ hh, Nat.add_assoc, ht (i * 4 + 2) (by omega)]; exact celV_at hi 2 (by omega)
    · rw [cell_of_row _ _ _ _ _ _ hh, Nat.add_assoc, ht (i * 4 + 3) (by omega)]; exact celV_at hi 3 (by omega)

attribute [local go_sem] Oper.semAt_some
theorem before_lt : ∀ {a b : List UInt8}, bytesBefore a b = true ↔ a < b
  | [], [] => by simp [bytesBefore]
  | [], _ :: _ => by simp [bytesBefore]
  | _ :: _, [] => by simp [bytesBefore]
  | x :: r, y :: s => by
    unfold bytesBefore
    rw [List.cons_lt_cons_iff, ← before_lt (a := r) (b := s)]
    simp
/-- What a round must leave: the blocks of S that are there. -/
structure KpS (S : Nat → Prop) (W W' : World) : Prop where
  size : W.heap.size ≤ W'.heap.size
  block : ∀ j o, S j → W.heap[j]? = some o → W'.heap[j]? = some o
theorem KpS.refl (S : Nat → Prop) (W : World) : KpS S W W := ⟨Nat.le_refl _, fun _ _ _ h => h⟩
theorem kpS_t {S : Nat → Prop} {A B C : World} (h : KpS S A B) (k : KpS S B C) : KpS S A C := ⟨Nat.le_trans h.size k.size, fun j o hs hj => k.block j o hs (h.block j o hs hj)⟩

theorem infoV : (Try.prog.info? 41).map (fun i => (i.zero, i.size, i.bytes)) = some (some (.agg #[.string ⟨#[]⟩, .int .i64 0, .slice none 0 0, .bool false]), 4, 56) := by kernel_rfl
theorem srcV_one (w : World) (y : Vn) (t : TypeId) : Src Try.prog 4 27 (.slice (some ⟨w.heap.size, 0, none⟩) 1 1) 1 (quadV y) (w.alloc (.cells #[.string y.k, .int .i64 y.n, .slice y.a y.z.length y.c, .bool y.d] t)) := by
  refine Src.ofSlice _ Try.underlying27 ⟨w.heap.size, 0, none⟩ 1 1 _ rfl (fun j u hu => ?_) (fun u hu => by simp [quadV] at hu; rcases hu with rfl | rfl | rfl | rfl <;> rfl)
  rw [Addr.add_lit, cell_of_row _ _ _ _ _ _ (heap_alloc_new w _), Nat.zero_add]
  have : (#[.string y.k, .int .i64 y.n, .slice y.a y.z.length y.c, .bool y.d] : Array Value)[j]? = (quadV y)[j]? := by simp [quadV]
  rw [this]; exact hu
def saysV (ys : List Vn) : List (List UInt8 × Ver) := ys.map fun y => (y.k.data.toList, verOf y)
theorem ValV.hold {w w' : World} {B : Nat} {ys : List Vn} (h : ValV w B ys) (hk : ∀ (j : Nat) (cur : Array Value), w.heap[j]? = some (Obj.cells cur 5 (0, 0)) → w'.heap[j]? = w.heap[j]?) : ValV w' B ys := fun y hy => (h y hy).hold fun j hj => by
  obtain ⟨cur, h2⟩ := (h y hy).typed hj
  exact hk j cur h2

theorem chg_kpS {S T : Nat → Prop} {W W' : World} (hc : Chg T W W') (hS : ∀ j, S j → ¬ T j) : KpS S W W' := ⟨hc.size, fun j _ hs hj => (hc.block j (Array.getElem?_eq_some_iff.1 hj).1 (hS j hs)).trans hj⟩

/-- A pair that is told. -/
structure Pn where
  k : ByteArray
  a : Option Addr
  z : List Nat
  c : Nat
def zeroPn : Pn := ⟨⟨#[]⟩, none, [], 0⟩
def duoP (x : Pn) : List Value := [.string x.k, .slice x.a x.z.length x.c]
def celP (ys : List Pn) : List Value := ys.flatMap duoP
def pn (ys : List Pn) (i : Nat) : Pn := ys.getD i zeroPn
theorem celP_len (xs : List Pn) : (celP xs).length = xs.length * 2 := by
  induction xs with
  | nil => rfl
  | cons x xs ih => show (duoP x ++ celP xs).length = _; rw [List.length_append, ih]; simp [duoP]; omega
theorem celP_append (xs ys : List Pn) : celP (xs ++ ys) = celP xs ++ celP ys := by simp [celP]
theorem celP_one (x : Pn) : celP [x] = duoP x := by simp [celP]
theorem celP_at {xs : List Pn} : ∀ {i : Nat} (_ : i < xs.length) (j : Nat) (_ : j < 2), (celP xs)[i * 2 + j]? = (duoP (pn xs i))[j]? := by
  induction xs with
  | nil => intro i h; simp at h
  | cons x xs ih =>
    intro i h j hj
    show (duoP x ++ celP xs)[i * 2 + j]? = _
    cases i with
    | zero => rw [List.getElem?_append_left (by simp [duoP]; omega)]; simp [pn]
    | succ i =>
      rw [List.getElem?_append_right (by simp [duoP]; omega)]
      have := ih (i := i) (by simpa using h) j hj
      rw [show (i + 1) * 2 + j - (duoP x).length = i * 2 + j by simp [duoP]; omega, this]
      simp [pn]
theorem pn_get {xs : List Pn} {i : Nat} (hi : i < xs.length) : xs[i] = pn xs i := by
  unfold pn; rw [List.getD_eq_getElem?_getD, List.getElem?_eq_getElem hi]; rfl
def OwP (w : World) (B : Nat) (v : Value) (ys : List Pn) : Prop := OwnS w B 60 2 v ys.length (celP ys)
def ValP (w : World) (B : Nat) (ys : List Pn) : Prop := ∀ y ∈ ys, OwnB w B (.slice y.a y.z.length y.c) y.z
/-- What a list of pairs says. -/
def saysP (ys : List Pn) : List (List UInt8 × List Nat) := ys.map fun y => (y.k.data.toList, y.z)
/-- A row of versions, of pairs; each one's bytes can be read. -/
structure RowV (w : World) (v : Value) (ys : List Vn) : Prop where
  own : OwV w 0 v ys
  val : ValV w 0 ys
structure RowP (w : World) (v : Value) (ys : List Pn) : Prop where
  own : OwP w 0 v ys
  val : ValP w 0 ys
theorem RowV.below {w w' : World} {v : Value} {ys : List Vn} (h : RowV w v ys) (hb : Below w.heap.size w w') : RowV w' v ys := ⟨OwnS.below h.own hb, fun y hy => (h.val y hy).below hb⟩
theorem RowP.below {w w' : World} {v : Value} {ys : List Pn} (h : RowP w v ys) (hb : Below w.heap.size w w') : RowP w' v ys := ⟨OwnS.below h.own hb, fun y hy => (h.val y hy).below hb⟩
theorem RowV.here {w : World} {v : Value} {ys : List Vn} (h : RowV w v ys) {i : Nat} (hi : i < ys.length) : ∃ g o cap, v = .slice (some ⟨g, o, none⟩) ys.length cap ∧ g < w.heap.size ∧ ys.length ≤ cap ∧
    w.cell? ⟨g, o + i * 4, none⟩ = some (.string (vn ys i).k) ∧ w.cell? ⟨g, o + i * 4 + 1, none⟩ = some (.int .i64 (vn ys i).n) ∧ w.cell? ⟨g, o + i * 4 + 2, none⟩ = some (.slice (vn ys i).a (vn ys i).z.length (vn ys i).c) ∧ w.cell? ⟨g, o + i * 4 + 3, none⟩ = some (.bool (vn ys i).d) := by
  rcases h.own.2 with ⟨rfl, h0⟩ | ⟨g, o, cap, cur, rfl, _, hh, hn, _⟩
  · omega
  · obtain ⟨a0, a1, a2, a3, hg, _⟩ := OwV.cells h.own hi
    exact ⟨g, o, cap, rfl, hg, hn, a0, a1, a2, a3⟩
theorem RowP.here {w : World} {v : Value} {ys : List Pn} (h : RowP w v ys) {i : Nat} (hi : i < ys.length) : ∃ g o cap, v = .slice (some ⟨g, o, none⟩) ys.length cap ∧ g < w.heap.size ∧ ys.length ≤ cap ∧
    w.cell? ⟨g, o + i * 2, none⟩ = some (.string (pn ys i).k) ∧ w.cell? ⟨g, o + i * 2 + 1, none⟩ = some (.slice (pn ys i).a (pn ys i).z.length (pn ys i).c) := by
  rcases h.own.2 with ⟨rfl, h0⟩ | ⟨g, o, cap, cur, rfl, _, hh, hn, _, hs, ht⟩
  · omega
  · have hl := celP_len ys
    refine ⟨g, o, cap, rfl, (Array.getElem?_eq_some_iff.1 hh).1, hn, ?_, ?_⟩
    · rw [cell_of_row _ _ _ _ _ _ hh, ht (i * 2) (by omega)]; exact celP_at hi 0 (by omega)
    · rw [cell_of_row _ _ _ _ _ _ hh, Nat.add_assoc, ht (i * 2 + 1) (by omega)]; exact celP_at hi 1 (by omega)
theorem same_ba {x y : ByteArray} (h : x.data.toList = y.data.toList) : x = y := by
  apply ByteArray.ext
  exact Array.toList_inj.1 h
theorem saysV_at {xs ys : List Vn} (h : saysV xs = saysV ys) : xs.length = ys.length ∧ ∀ i, i < xs.length → (vn xs i).k = (vn ys i).k ∧ verOf (vn xs i) = verOf (vn ys i) := by
  have hl : xs.length = ys.length := by have := congrArg List.length h; unfold saysV at this; simpa using this
  refine ⟨hl, fun i hi => ?_⟩
  have h1 : (saysV xs)[i]? = (saysV ys)[i]? := by rw [h]
  unfold saysV at h1
  rw [List.getElem?_map, List.getElem?_map, List.getElem?_eq_getElem hi, List.getElem?_eq_getElem (by omega), vn_get hi, vn_get (by omega)] at h1
  simp only [Option.map_some, Option.some.injEq, Prod.mk.injEq] at h1
  exact ⟨same_ba h1.1, h1.2⟩
theorem saysP_at {xs ys : List Pn} (h : saysP xs = saysP ys) : xs.length = ys.length ∧ ∀ i, i < xs.length → (pn xs i).k = (pn ys i).k ∧ (pn xs i).z = (pn ys i).z := by
  have hl : xs.length = ys.length := by have := congrArg List.length h; unfold saysP at this; simpa using this
  refine ⟨hl, fun i hi => ?_⟩
  have h1 : (saysP xs)[i]? = (saysP ys)[i]? := by rw [h]
  unfold saysP at h1
  rw [List.getElem?_map, List.getElem?_map, List.getElem?_eq_getElem hi, List.getElem?_eq_getElem (by omega), pn_get hi, pn_get (by omega)] at h1
  simp only [Option.map_some, Option.some.injEq, Prod.mk.injEq] at h1
  exact ⟨same_ba h1.1, h1.2⟩
theorem vn_mem {xs : List Vn} {i : Nat} (h : i < xs.length) : vn xs i ∈ xs := by rw [← vn_get h]; exact List.getElem_mem h
theorem pn_mem {xs : List Pn} {i : Nat} (h : i < xs.length) : pn xs i ∈ xs := by rw [← pn_get h]; exact List.getElem_mem h

theorem bless_list : ∀ (a b : List UInt8), Op.bytesLess a b = bytesBefore a b
  | [], [] => rfl
  | [], _ :: _ => rfl
  | _ :: _, [] => rfl
  | x :: r, y :: s => by
    unfold Op.bytesLess bytesBefore
    rw [bless_list r s]
theorem bless (a b : ByteArray) : Op.bytesLess a.toList b.toList = bytesBefore a.data.toList b.data.toList := by
  rw [Lib.toList_data, Lib.toList_data, bless_list]

theorem infoPn : (Try.prog.info? 60).map (fun i => (i.zero, i.size, i.bytes)) = some (some (.agg #[.string ⟨#[]⟩, .slice none 0 0]), 2, 40) := by kernel_rfl
theorem srcPn_one (w : World) (y : Pn) (t : TypeId) : Src Try.prog 2 35 (.slice (some ⟨w.heap.size, 0, none⟩) 1 1) 1 (duoP y) (w.alloc (.cells #[.string y.k, .slice y.a y.z.length y.c] t)) := by
  refine Src.ofSlice _ Try.underlying35 ⟨w.heap.size, 0, none⟩ 1 1 _ rfl (fun j u hu => ?_) (fun u hu => by simp [duoP] at hu; rcases hu with rfl | rfl <;> rfl)
  rw [Addr.add_lit, cell_of_row _ _ _ _ _ _ (heap_alloc_new w _), Nat.zero_add]
  have : (#[.string y.k, .slice y.a y.z.length y.c] : Array Value)[j]? = (duoP y)[j]? := by simp [duoP]
  rw [this]; exact hu

attribute [local go_sem] Oper.semAt_some
theorem ValP.hold {w w' : World} {B : Nat} {ys : List Pn} (h : ValP w B ys) (hk : ∀ (j : Nat) (cur : Array Value), w.heap[j]? = some (Obj.cells cur 5 (0, 0)) → w'.heap[j]? = w.heap[j]?) : ValP w' B ys := fun y hy => (h y hy).hold fun j hj => by
  obtain ⟨cur, h2⟩ := (h y hy).typed hj
  exact hk j cur h2

end Go.Proofs.Ytbafjkanbbcbgaa
