/- Opening a law's argument that is a list of structs: cloisterlaw15.Op. -/
import Derived.Test.YtepkhohaahmebaaOpenPc
namespace Go.Proofs.Ytepkhohaahmebaa
open Go.ChangeShapes Go.WideShapes Go.ChangeAt Go.RowKit Go.Joins Go.Deep

/-- One of cloisterlaw15.Op. -/
structure Opq where
  k : Int
  i : Int
  a : Int
  b : Int
  c : Int
def zeroOpq : Opq := ⟨0, 0, 0, 0, 0⟩
/-- What is known of one. -/
structure OpqOk (w : World) (x : Opq) : Prop where
  k : -9223372036854775808 ≤ x.k ∧ x.k ≤ 9223372036854775807
  i : -9223372036854775808 ≤ x.i ∧ x.i ≤ 9223372036854775807
  a : -9223372036854775808 ≤ x.a ∧ x.a ≤ 9223372036854775807
  b : -9223372036854775808 ≤ x.b ∧ x.b ≤ 9223372036854775807
  c : -9223372036854775808 ≤ x.c ∧ x.c ≤ 9223372036854775807
theorem OpqOk.below {w w' : World} {x : Opq} (h : OpqOk w x) (_hb : Below w.heap.size w w') : OpqOk w' x := ⟨h.k, h.i, h.a, h.b, h.c⟩
/-- A row of them. -/
def RowOpq (w : World) (a : Option Addr) (n : Nat) (A : Nat → Opq) : Prop :=
  n = 0 ∨ ∃ b o, a = some ⟨b, o, none⟩ ∧ b < w.heap.size ∧ ∀ i, i < n → w.cell? ⟨b, o + i * 5, none⟩ = some (.int .i64 (A i).k) ∧ w.cell? ⟨b, o + i * 5 + 1, none⟩ = some (.int .i64 (A i).i) ∧ w.cell? ⟨b, o + i * 5 + 2, none⟩ = some (.int .i64 (A i).a) ∧ w.cell? ⟨b, o + i * 5 + 3, none⟩ = some (.int .i64 (A i).b) ∧ w.cell? ⟨b, o + i * 5 + 4, none⟩ = some (.int .i64 (A i).c)
theorem RowOpq.here {w : World} {a : Option Addr} {n : Nat} {A : Nat → Opq} (h : RowOpq w a n A) {i : Nat} (hi : i < n) :
    ∃ b o, a = some ⟨b, o, none⟩ ∧ b < w.heap.size ∧ w.cell? ⟨b, o + i * 5, none⟩ = some (.int .i64 (A i).k) ∧ w.cell? ⟨b, o + i * 5 + 1, none⟩ = some (.int .i64 (A i).i) ∧ w.cell? ⟨b, o + i * 5 + 2, none⟩ = some (.int .i64 (A i).a) ∧ w.cell? ⟨b, o + i * 5 + 3, none⟩ = some (.int .i64 (A i).b) ∧ w.cell? ⟨b, o + i * 5 + 4, none⟩ = some (.int .i64 (A i).c) := by
  rcases h with h | ⟨b, o, e, hlt, hc⟩
  · omega
  · exact ⟨b, o, e, hlt, hc i hi⟩
theorem RowOpq.below {w w' : World} {a : Option Addr} {n : Nat} {A : Nat → Opq} (h : RowOpq w a n A) (hb : Below w.heap.size w w') : RowOpq w' a n A := by
  rcases h with h | ⟨b, o, e, hlt, hc⟩
  · exact .inl h
  · refine .inr ⟨b, o, e, Nat.lt_of_lt_of_le hlt hb.size, fun i hi => ?_⟩
    obtain ⟨q0, q1, q2, q3, q4⟩ := hc i hi
    exact ⟨by rw [hb.cell (p := ⟨b, o + i * 5, none⟩) hlt]; exact q0, by rw [hb.cell (p := ⟨b, o + i * 5 + 1, none⟩) hlt]; exact q1, by rw [hb.cell (p := ⟨b, o + i * 5 + 2, none⟩) hlt]; exact q2, by rw [hb.cell (p := ⟨b, o + i * 5 + 3, none⟩) hlt]; exact q3, by rw [hb.cell (p := ⟨b, o + i * 5 + 4, none⟩) hlt]; exact q4⟩
structure CameOpq (w : World) (a : Option Addr) (n : Nat) (A : Nat → Opq) : Prop where
  row : RowOpq w a n A
  size : n ≤ 3518437208780
  each : ∀ i, i < n → OpqOk w (A i)
theorem CameOpq.below {w w' : World} {a : Option Addr} {n : Nat} {A : Nat → Opq} (h : CameOpq w a n A) (hb : Below w.heap.size w w') : CameOpq w' a n A := ⟨h.row.below hb, h.size, fun i hi => (h.each i hi).below hb⟩

theorem cellsOpq0 : Try.prog.cellsOf 3 = 1 := by kernel_rfl
theorem cellsOpq : Try.prog.cellsOf 30 = 5 := by kernel_rfl
theorem bytesOpq : Try.prog.bytesOf 30 = 40 := by kernel_rfl

section
variable {H : Type} {enc : TypeId × Value → H} {W : World}

/-- One, told by its cells. -/
def OpqAt (W : World) (cs : List Value) (t : Opq) : Prop := OpqOk W t ∧ cs[0]? = some (.int .i64 t.k) ∧ cs[1]? = some (.int .i64 t.i) ∧ cs[2]? = some (.int .i64 t.a) ∧ cs[3]? = some (.int .i64 t.b) ∧ cs[4]? = some (.int .i64 t.c)

set_option maxRecDepth 100000 in
theorem open_Opq1 {n : Nat} {cs : List Value} {x : DataW H × List MemPlace} (h : DataW.trod enc Try.prog W 0 (fun _ => true) true n 30 cs = some x) (hb : Fits Try.prog 30 x.1) : ∃ t : Opq, OpqAt W cs t := by
  obtain ⟨xs, q, _, rfl, hl, hxl, hf⟩ := DataW.trod_struct Try.underlying30 h
  have hxm : xs.length = 5 := hxl
  rw [cellsOpq] at hl
  match xs, hxm with
  | [y0, y1, y2, y3, y4], _ =>
    have f0 : DataW.trod enc Try.prog W 0 (fun _ => true) true q 3 ((cs.drop 0).take (Try.prog.cellsOf 3)) = some y0 := hf 0 _ rfl
    rw [cellsOpq0] at f0
    obtain ⟨v0, e0, _, w0⟩ := DataW.trod_int Try.underlying3 f0
    have f1 : DataW.trod enc Try.prog W 0 (fun _ => true) true q 3 ((cs.drop 1).take (Try.prog.cellsOf 3)) = some y1 := hf 1 _ rfl
    rw [cellsOpq0] at f1
    obtain ⟨v1, e1, _, w1⟩ := DataW.trod_int Try.underlying3 f1
    have f2 : DataW.trod enc Try.prog W 0 (fun _ => true) true q 3 ((cs.drop 2).take (Try.prog.cellsOf 3)) = some y2 := hf 2 _ rfl
    rw [cellsOpq0] at f2
    obtain ⟨v2, e2, _, w2⟩ := DataW.trod_int Try.underlying3 f2
    have f3 : DataW.trod enc Try.prog W 0 (fun _ => true) true q 3 ((cs.drop 3).take (Try.prog.cellsOf 3)) = some y3 := hf 3 _ rfl
    rw [cellsOpq0] at f3
    obtain ⟨v3, e3, _, w3⟩ := DataW.trod_int Try.underlying3 f3
    have f4 : DataW.trod enc Try.prog W 0 (fun _ => true) true q 3 ((cs.drop 4).take (Try.prog.cellsOf 3)) = some y4 := hf 4 _ rfl
    rw [cellsOpq0] at f4
    obtain ⟨v4, e4, _, w4⟩ := DataW.trod_int Try.underlying3 f4
    exact ⟨⟨v0, v1, v2, v3, v4⟩, ⟨bounds_i64 w0, bounds_i64 w1, bounds_i64 w2, bounds_i64 w3, bounds_i64 w4⟩, one_cell e0, one_cell e1, one_cell e2, one_cell e3, one_cell e4⟩

set_option maxRecDepth 100000 in
theorem open_Opqv {base : Nat} {v : Value} {d : DataW H} {p : List MemPlace} (hok : Value.okWide Try.prog W .any base 30 v) (h : DataW.Trod enc Try.prog W 0 (fun _ => true) true 30 v d p)
    (hb : Fits Try.prog 30 d) : ∃ t : Opq, v = .agg #[.int .i64 t.k, .int .i64 t.i, .int .i64 t.a, .int .i64 t.b, .int .i64 t.c] ∧ OpqOk W t := by
  obtain ⟨cs, rfl, hsz⟩ := okWide_struct Try.underlying30 hok
  rw [cellsOpq] at hsz
  obtain ⟨fuel, hf⟩ := h
  obtain ⟨t, hok, h0, h1, h2, h3, h4⟩ := open_Opq1 (x := (d, p)) hf hb
  refine ⟨t, ?_, hok⟩
  have e : (Value.agg cs).cells.toList = cs.toList := rfl
  rw [e] at h0 h1 h2 h3 h4
  simp only [Array.getElem?_toList] at h0 h1 h2 h3 h4
  congr 1
  apply Array.ext'
  match hcs : cs.toList, (show cs.toList.length = 5 by simpa using hsz) with
  | [x0, x1, x2, x3, x4], _ =>
    have q : ∀ i, cs[i]? = [x0, x1, x2, x3, x4][i]? := fun i => by rw [← hcs, Array.getElem?_toList]
    rw [q] at h0 h1 h2 h3 h4
    simp at h0 h1 h2 h3 h4
    rw [h0, h1, h2, h3, h4]

theorem open_Opqc {fuel : Nat} {v : Value} {x : DataW H × List MemPlace} (hf : DataW.trod enc Try.prog W 0 (fun _ => true) true fuel 22 [v] = some x) (hb : Fits Try.prog 22 x.1) :
    ∃ (a : Option Addr) (n cap : Nat) (T : Nat → Opq), v = .slice a n cap ∧ CameOpq W a n T := by
  rcases open_slice Try.underlying22 hf with ⟨hcs, hx⟩ | ⟨a, len0, cap0, m, n, D, Pl, hcs, _, hl, _, hm, hx, hall⟩
  · simp at hcs
    subst hcs
    exact ⟨none, 0, 0, fun _ => zeroOpq, rfl, .inl rfl, by omega, fun i hi => by omega⟩
  · simp at hcs
    subst hcs
    have hd := congrArg Prod.fst hx
    simp only at hd
    rw [hd] at hb
    clear hd hx
    have hmc : m = cap0 := by simpa using hm
    have hbl := fits_len hb Try.underlying22
    rw [bytesOpq] at hbl
    simp at hbl
    unfold reachBytes at hbl
    rw [cellsOpq] at hall
    have each : ∀ i, ∃ t : Opq, i < len0 → ∃ cs', W.cells? 0 (a.add (i * 5)) 5 = some cs' ∧ OpqAt W cs' t := fun i => by
      by_cases hi : i < len0
      · obtain ⟨cs', h1, h2⟩ := hall i (by omega)
        have hmem : D i ∈ (List.range len0).map D := List.mem_map.2 ⟨i, List.mem_range.2 hi, rfl⟩
        obtain ⟨t, ht⟩ := open_Opq1 h2 (fits_elem hb Try.underlying22 hmem)
        exact ⟨t, fun _ => ⟨cs', h1, ht⟩⟩
      · exact ⟨zeroOpq, fun h => absurd h hi⟩
    obtain ⟨T, hT⟩ : ∃ T : Nat → Opq, ∀ i, i < len0 → ∃ cs', W.cells? 0 (a.add (i * 5)) 5 = some cs' ∧ OpqAt W cs' (T i) := ⟨fun i => (each i).choose, fun i hi => (each i).choose_spec hi⟩
    clear each
    have hcell : ∀ i, i < len0 → W.cell? (a.add (i * 5)) = some (.int .i64 (T i).k) ∧ W.cell? (a.add (i * 5 + 1)) = some (.int .i64 (T i).i) ∧ W.cell? (a.add (i * 5 + 2)) = some (.int .i64 (T i).a) ∧ W.cell? (a.add (i * 5 + 3)) = some (.int .i64 (T i).b) ∧ W.cell? (a.add (i * 5 + 4)) = some (.int .i64 (T i).c) := fun i hi => by
      obtain ⟨cs', h1, ht⟩ := hT i hi
      obtain ⟨_, h3, h4, h5, h6, h7⟩ := ht
      obtain ⟨_, _, hc⟩ := World.cells?_some h1
      refine ⟨?_, ?_, ?_, ?_, ?_⟩
      · rw [← h3, ← hc 0 (by omega), add_add, Nat.add_zero]
      · rw [← h4, ← hc 1 (by omega), add_add]
      · rw [← h5, ← hc 2 (by omega), add_add]
      · rw [← h6, ← hc 3 (by omega), add_add]
      · rw [← h7, ← hc 4 (by omega), add_add]
    refine ⟨some a, len0, cap0, T, rfl, ?_, by omega, fun i hi => ?_⟩
    · by_cases h0 : len0 = 0
      · exact .inl h0
      · obtain ⟨bk, off, spot⟩ := a
        have hspot : spot = none := by
          obtain ⟨q, _⟩ := hcell 0 (by omega)
          simpa [Addr.add] using World.cell?_spot q
        subst hspot
        refine .inr ⟨bk, off, rfl, ?_, fun i hi => ?_⟩
        · obtain ⟨q, _⟩ := hcell 0 (by omega)
          exact World.block_lt_of_cell? W _ q
        · obtain ⟨q0, q1, q2, q3, q4⟩ := hcell i hi
          rw [Addr.add_lit] at q0 q1 q2 q3 q4
          exact ⟨q0, by rw [Nat.add_assoc]; exact q1, by rw [Nat.add_assoc]; exact q2, by rw [Nat.add_assoc]; exact q3, by rw [Nat.add_assoc]; exact q4⟩
    · obtain ⟨cs', _, ht⟩ := hT i hi
      exact ht.1

set_option maxRecDepth 100000 in
theorem open_Opqs {base : Nat} {v : Value} {d : DataW H} {p : List MemPlace} (hok : Value.okWide Try.prog W .any base 22 v) (h : DataW.Trod enc Try.prog W 0 (fun _ => true) true 22 v d p)
    (hb : Fits Try.prog 22 d) :
    ∃ (a : Option Addr) (n cap : Nat) (T : Nat → Opq), v = .slice a n cap ∧ CameOpq W a n T := by
  obtain ⟨a0, len0, cap0, rfl⟩ := okWide_slice Try.underlying22 hok
  obtain ⟨fuel, hf⟩ := h
  exact open_Opqc (x := (d, p)) hf hb
end
end Go.Proofs.Ytepkhohaahmebaa
