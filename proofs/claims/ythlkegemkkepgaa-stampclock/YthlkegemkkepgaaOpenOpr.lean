/- Opening a law's argument that is a list of structs: cloisterlaw12.Op. -/
import Derived.Test.YthlkegemkkepgaaOpenPc
namespace Go.Proofs.Ythlkegemkkepgaa
open Go.ChangeShapes Go.WideShapes Go.ChangeAt Go.RowKit Go.Joins Go.Deep

/-- One of cloisterlaw12.Op. -/
structure Opr where
  k : Int
  i : Int
  a : Int
  b : Int
def zeroOpr : Opr := ⟨0, 0, 0, 0⟩
/-- What is known of one. -/
structure OprOk (w : World) (x : Opr) : Prop where
  k : -9223372036854775808 ≤ x.k ∧ x.k ≤ 9223372036854775807
  i : -9223372036854775808 ≤ x.i ∧ x.i ≤ 9223372036854775807
  a : -9223372036854775808 ≤ x.a ∧ x.a ≤ 9223372036854775807
  b : -9223372036854775808 ≤ x.b ∧ x.b ≤ 9223372036854775807
theorem OprOk.below {w w' : World} {x : Opr} (h : OprOk w x) (_hb : Below w.heap.size w w') : OprOk w' x := ⟨h.k, h.i, h.a, h.b⟩
/-- A row of them. -/
def RowOpr (w : World) (a : Option Addr) (n : Nat) (A : Nat → Opr) : Prop :=
  n = 0 ∨ ∃ b o, a = some ⟨b, o, none⟩ ∧ b < w.heap.size ∧ ∀ i, i < n → w.cell? ⟨b, o + i * 4, none⟩ = some (.int .i64 (A i).k) ∧ w.cell? ⟨b, o + i * 4 + 1, none⟩ = some (.int .i64 (A i).i) ∧ w.cell? ⟨b, o + i * 4 + 2, none⟩ = some (.int .i64 (A i).a) ∧ w.cell? ⟨b, o + i * 4 + 3, none⟩ = some (.int .i64 (A i).b)
theorem RowOpr.here {w : World} {a : Option Addr} {n : Nat} {A : Nat → Opr} (h : RowOpr w a n A) {i : Nat} (hi : i < n) :
    ∃ b o, a = some ⟨b, o, none⟩ ∧ b < w.heap.size ∧ w.cell? ⟨b, o + i * 4, none⟩ = some (.int .i64 (A i).k) ∧ w.cell? ⟨b, o + i * 4 + 1, none⟩ = some (.int .i64 (A i).i) ∧ w.cell? ⟨b, o + i * 4 + 2, none⟩ = some (.int .i64 (A i).a) ∧ w.cell? ⟨b, o + i * 4 + 3, none⟩ = some (.int .i64 (A i).b) := by
  rcases h with h | ⟨b, o, e, hlt, hc⟩
  · omega
  · exact ⟨b, o, e, hlt, hc i hi⟩
theorem RowOpr.below {w w' : World} {a : Option Addr} {n : Nat} {A : Nat → Opr} (h : RowOpr w a n A) (hb : Below w.heap.size w w') : RowOpr w' a n A := by
  rcases h with h | ⟨b, o, e, hlt, hc⟩
  · exact .inl h
  · refine .inr ⟨b, o, e, Nat.lt_of_lt_of_le hlt hb.size, fun i hi => ?_⟩
    obtain ⟨q0, q1, q2, q3⟩ := hc i hi
    exact ⟨by rw [hb.cell (p := ⟨b, o + i * 4, none⟩) hlt]; exact q0, by rw [hb.cell (p := ⟨b, o + i * 4 + 1, none⟩) hlt]; exact q1, by rw [hb.cell (p := ⟨b, o + i * 4 + 2, none⟩) hlt]; exact q2, by rw [hb.cell (p := ⟨b, o + i * 4 + 3, none⟩) hlt]; exact q3⟩
structure CameOpr (w : World) (a : Option Addr) (n : Nat) (A : Nat → Opr) : Prop where
  row : RowOpr w a n A
  size : n ≤ 4398046510976
  each : ∀ i, i < n → OprOk w (A i)
theorem CameOpr.below {w w' : World} {a : Option Addr} {n : Nat} {A : Nat → Opr} (h : CameOpr w a n A) (hb : Below w.heap.size w w') : CameOpr w' a n A := ⟨h.row.below hb, h.size, fun i hi => (h.each i hi).below hb⟩

theorem cellsOpr0 : Try.prog.cellsOf 3 = 1 := by kernel_rfl
theorem cellsOpr : Try.prog.cellsOf 30 = 4 := by kernel_rfl
theorem bytesOpr : Try.prog.bytesOf 30 = 32 := by kernel_rfl

section
variable {H : Type} {enc : TypeId × Value → H} {W : World}

/-- One, told by its cells. -/
def OprAt (W : World) (cs : List Value) (t : Opr) : Prop := OprOk W t ∧ cs[0]? = some (.int .i64 t.k) ∧ cs[1]? = some (.int .i64 t.i) ∧ cs[2]? = some (.int .i64 t.a) ∧ cs[3]? = some (.int .i64 t.b)

set_option maxRecDepth 100000 in
theorem open_Opr1 {n : Nat} {cs : List Value} {x : DataW H × List MemPlace} (h : DataW.trod enc Try.prog W 0 (fun _ => true) true n 30 cs = some x) (hb : Fits Try.prog 30 x.1) : ∃ t : Opr, OprAt W cs t := by
  obtain ⟨xs, q, _, rfl, hl, hxl, hf⟩ := DataW.trod_struct Try.underlying30 h
  have hxm : xs.length = 4 := hxl
  rw [cellsOpr] at hl
  match xs, hxm with
  | [y0, y1, y2, y3], _ =>
    have f0 : DataW.trod enc Try.prog W 0 (fun _ => true) true q 3 ((cs.drop 0).take (Try.prog.cellsOf 3)) = some y0 := hf 0 _ rfl
    rw [cellsOpr0] at f0
    obtain ⟨v0, e0, _, w0⟩ := DataW.trod_int Try.underlying3 f0
    have f1 : DataW.trod enc Try.prog W 0 (fun _ => true) true q 3 ((cs.drop 1).take (Try.prog.cellsOf 3)) = some y1 := hf 1 _ rfl
    rw [cellsOpr0] at f1
    obtain ⟨v1, e1, _, w1⟩ := DataW.trod_int Try.underlying3 f1
    have f2 : DataW.trod enc Try.prog W 0 (fun _ => true) true q 3 ((cs.drop 2).take (Try.prog.cellsOf 3)) = some y2 := hf 2 _ rfl
    rw [cellsOpr0] at f2
    obtain ⟨v2, e2, _, w2⟩ := DataW.trod_int Try.underlying3 f2
    have f3 : DataW.trod enc Try.prog W 0 (fun _ => true) true q 3 ((cs.drop 3).take (Try.prog.cellsOf 3)) = some y3 := hf 3 _ rfl
    rw [cellsOpr0] at f3
    obtain ⟨v3, e3, _, w3⟩ := DataW.trod_int Try.underlying3 f3
    exact ⟨⟨v0, v1, v2, v3⟩, ⟨bounds_i64 w0, bounds_i64 w1, bounds_i64 w2, bounds_i64 w3⟩, one_cell e0, one_cell e1, one_cell e2, one_cell e3⟩

set_option maxRecDepth 100000 in
theorem open_Oprv {base : Nat} {v : Value} {d : DataW H} {p : List MemPlace} (hok : Value.okWide Try.prog W .any base 30 v) (h : DataW.Trod enc Try.prog W 0 (fun _ => true) true 30 v d p)
    (hb : Fits Try.prog 30 d) : ∃ t : Opr, v = .agg #[.int .i64 t.k, .int .i64 t.i, .int .i64 t.a, .int .i64 t.b] ∧ OprOk W t := by
  obtain ⟨cs, rfl, hsz⟩ := okWide_struct Try.underlying30 hok
  rw [cellsOpr] at hsz
  obtain ⟨fuel, hf⟩ := h
  obtain ⟨t, hok, h0, h1, h2, h3⟩ := open_Opr1 (x := (d, p)) hf hb
  refine ⟨t, ?_, hok⟩
  have e : (Value.agg cs).cells.toList = cs.toList := rfl
  rw [e] at h0 h1 h2 h3
  simp only [Array.getElem?_toList] at h0 h1 h2 h3
  congr 1
  apply Array.ext'
  match hcs : cs.toList, (show cs.toList.length = 4 by simpa using hsz) with
  | [x0, x1, x2, x3], _ =>
    have q : ∀ i, cs[i]? = [x0, x1, x2, x3][i]? := fun i => by rw [← hcs, Array.getElem?_toList]
    rw [q] at h0 h1 h2 h3
    simp at h0 h1 h2 h3
    rw [h0, h1, h2, h3]

theorem open_Oprc {fuel : Nat} {v : Value} {x : DataW H × List MemPlace} (hf : DataW.trod enc Try.prog W 0 (fun _ => true) true fuel 22 [v] = some x) (hb : Fits Try.prog 22 x.1) :
    ∃ (a : Option Addr) (n cap : Nat) (T : Nat → Opr), v = .slice a n cap ∧ CameOpr W a n T := by
  rcases open_slice Try.underlying22 hf with ⟨hcs, hx⟩ | ⟨a, len0, cap0, m, n, D, Pl, hcs, _, hl, _, hm, hx, hall⟩
  · simp at hcs
    subst hcs
    exact ⟨none, 0, 0, fun _ => zeroOpr, rfl, .inl rfl, by omega, fun i hi => by omega⟩
  · simp at hcs
    subst hcs
    have hd := congrArg Prod.fst hx
    simp only at hd
    rw [hd] at hb
    clear hd hx
    have hmc : m = cap0 := by simpa using hm
    have hbl := fits_len hb Try.underlying22
    rw [bytesOpr] at hbl
    simp at hbl
    unfold reachBytes at hbl
    rw [cellsOpr] at hall
    have each : ∀ i, ∃ t : Opr, i < len0 → ∃ cs', W.cells? 0 (a.add (i * 4)) 4 = some cs' ∧ OprAt W cs' t := fun i => by
      by_cases hi : i < len0
      · obtain ⟨cs', h1, h2⟩ := hall i (by omega)
        have hmem : D i ∈ (List.range len0).map D := List.mem_map.2 ⟨i, List.mem_range.2 hi, rfl⟩
        obtain ⟨t, ht⟩ := open_Opr1 h2 (fits_elem hb Try.underlying22 hmem)
        exact ⟨t, fun _ => ⟨cs', h1, ht⟩⟩
      · exact ⟨zeroOpr, fun h => absurd h hi⟩
    obtain ⟨T, hT⟩ : ∃ T : Nat → Opr, ∀ i, i < len0 → ∃ cs', W.cells? 0 (a.add (i * 4)) 4 = some cs' ∧ OprAt W cs' (T i) := ⟨fun i => (each i).choose, fun i hi => (each i).choose_spec hi⟩
    clear each
    have hcell : ∀ i, i < len0 → W.cell? (a.add (i * 4)) = some (.int .i64 (T i).k) ∧ W.cell? (a.add (i * 4 + 1)) = some (.int .i64 (T i).i) ∧ W.cell? (a.add (i * 4 + 2)) = some (.int .i64 (T i).a) ∧ W.cell? (a.add (i * 4 + 3)) = some (.int .i64 (T i).b) := fun i hi => by
      obtain ⟨cs', h1, ht⟩ := hT i hi
      obtain ⟨_, h3, h4, h5, h6⟩ := ht
      obtain ⟨_, _, hc⟩ := World.cells?_some h1
      refine ⟨?_, ?_, ?_, ?_⟩
      · rw [← h3, ← hc 0 (by omega), add_add, Nat.add_zero]
      · rw [← h4, ← hc 1 (by omega), add_add]
      · rw [← h5, ← hc 2 (by omega), add_add]
      · rw [← h6, ← hc 3 (by omega), add_add]
    refine ⟨some a, len0, cap0, T, rfl, ?_, by omega, fun i hi => ?_⟩
    · by_cases h0 : len0 = 0
      · exact .inl h0
      · obtain ⟨bk, off, spot⟩ := a
        have hspot : spot = none := by
          obtain ⟨q, _⟩ := hcell 0 (by omega)
          simpa [Addr.add] using World.cell?_spot q
        subst hspot
        refine .inr ⟨bk, off, rfl, ?_, fun i hi => ?_⟩
        · obtain ⟨q, _⟩ := hcell 0 (by omega)
          exact World.block_lt_of_cell? W _ q
        · obtain ⟨q0, q1, q2, q3⟩ := hcell i hi
          rw [Addr.add_lit] at q0 q1 q2 q3
          exact ⟨q0, by rw [Nat.add_assoc]; exact q1, by rw [Nat.add_assoc]; exact q2, by rw [Nat.add_assoc]; exact q3⟩
    · obtain ⟨cs', _, ht⟩ := hT i hi
      exact ht.1

set_option maxRecDepth 100000 in
theorem open_Oprs {base : Nat} {v : Value} {d : DataW H} {p : List MemPlace} (hok : Value.okWide Try.prog W .any base 22 v) (h : DataW.Trod enc Try.prog W 0 (fun _ => true) true 22 v d p)
    (hb : Fits Try.prog 22 d) :
    ∃ (a : Option Addr) (n cap : Nat) (T : Nat → Opr), v = .slice a n cap ∧ CameOpr W a n T := by
  obtain ⟨a0, len0, cap0, rfl⟩ := okWide_slice Try.underlying22 hok
  obtain ⟨fuel, hf⟩ := h
  exact open_Oprc (x := (d, p)) hf hb
end
end Go.Proofs.Ythlkegemkkepgaa
