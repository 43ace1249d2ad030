/- Opening a law's argument that is a list of structs: cloisterlaw15.Pair. -/
import Derived.Test.YtepkhohaahmebaaOpenPc
namespace Go.Proofs.Ytepkhohaahmebaa
open Go.ChangeShapes Go.WideShapes Go.ChangeAt Go.RowKit Go.Joins Go.Deep

/-- One of cloisterlaw15.Pair. -/
structure Par where
  u : Int
  v : Int
def zeroPar : Par := ⟨0, 0⟩
/-- What is known of one. -/
structure ParOk (w : World) (x : Par) : Prop where
  u : -9223372036854775808 ≤ x.u ∧ x.u ≤ 9223372036854775807
  v : -9223372036854775808 ≤ x.v ∧ x.v ≤ 9223372036854775807
theorem ParOk.below {w w' : World} {x : Par} (h : ParOk w x) (_hb : Below w.heap.size w w') : ParOk w' x := ⟨h.u, h.v⟩
/-- A row of them. -/
def RowPar (w : World) (a : Option Addr) (n : Nat) (A : Nat → Par) : Prop :=
  n = 0 ∨ ∃ b o, a = some ⟨b, o, none⟩ ∧ b < w.heap.size ∧ ∀ i, i < n → w.cell? ⟨b, o + i * 2, none⟩ = some (.int .i64 (A i).u) ∧ w.cell? ⟨b, o + i * 2 + 1, none⟩ = some (.int .i64 (A i).v)
theorem RowPar.here {w : World} {a : Option Addr} {n : Nat} {A : Nat → Par} (h : RowPar w a n A) {i : Nat} (hi : i < n) :
    ∃ b o, a = some ⟨b, o, none⟩ ∧ b < w.heap.size ∧ w.cell? ⟨b, o + i * 2, none⟩ = some (.int .i64 (A i).u) ∧ w.cell? ⟨b, o + i * 2 + 1, none⟩ = some (.int .i64 (A i).v) := by
  rcases h with h | ⟨b, o, e, hlt, hc⟩
  · omega
  · exact ⟨b, o, e, hlt, hc i hi⟩
theorem RowPar.below {w w' : World} {a : Option Addr} {n : Nat} {A : Nat → Par} (h : RowPar w a n A) (hb : Below w.heap.size w w') : RowPar w' a n A := by
  rcases h with h | ⟨b, o, e, hlt, hc⟩
  · exact .inl h
  · refine .inr ⟨b, o, e, Nat.lt_of_lt_of_le hlt hb.size, fun i hi => ?_⟩
    obtain ⟨q0, q1⟩ := hc i hi
    exact ⟨by rw [hb.cell (p := ⟨b, o + i * 2, none⟩) hlt]; exact q0, by rw [hb.cell (p := ⟨b, o + i * 2 + 1, none⟩) hlt]; exact q1⟩
structure CamePar (w : World) (a : Option Addr) (n : Nat) (A : Nat → Par) : Prop where
  row : RowPar w a n A
  size : n ≤ 8796093021952
  each : ∀ i, i < n → ParOk w (A i)
theorem CamePar.below {w w' : World} {a : Option Addr} {n : Nat} {A : Nat → Par} (h : CamePar w a n A) (hb : Below w.heap.size w w') : CamePar w' a n A := ⟨h.row.below hb, h.size, fun i hi => (h.each i hi).below hb⟩

theorem cellsPar0 : Try.prog.cellsOf 3 = 1 := by kernel_rfl
theorem cellsPar : Try.prog.cellsOf 47 = 2 := by kernel_rfl
theorem bytesPar : Try.prog.bytesOf 47 = 16 := by kernel_rfl

section
variable {H : Type} {enc : TypeId × Value → H} {W : World}

/-- One, told by its cells. -/
def ParAt (W : World) (cs : List Value) (t : Par) : Prop := ParOk W t ∧ cs[0]? = some (.int .i64 t.u) ∧ cs[1]? = some (.int .i64 t.v)

set_option maxRecDepth 100000 in
theorem open_Par1 {n : Nat} {cs : List Value} {x : DataW H × List MemPlace} (h : DataW.trod enc Try.prog W 0 (fun _ => true) true n 47 cs = some x) (hb : Fits Try.prog 47 x.1) : ∃ t : Par, ParAt W cs t := by
  obtain ⟨xs, q, _, rfl, hl, hxl, hf⟩ := DataW.trod_struct Try.underlying47 h
  have hxm : xs.length = 2 := hxl
  rw [cellsPar] at hl
  match xs, hxm with
  | [y0, y1], _ =>
    have f0 : DataW.trod enc Try.prog W 0 (fun _ => true) true q 3 ((cs.drop 0).take (Try.prog.cellsOf 3)) = some y0 := hf 0 _ rfl
    rw [cellsPar0] at f0
    obtain ⟨v0, e0, _, w0⟩ := DataW.trod_int Try.underlying3 f0
    have f1 : DataW.trod enc Try.prog W 0 (fun _ => true) true q 3 ((cs.drop 1).take (Try.prog.cellsOf 3)) = some y1 := hf 1 _ rfl
    rw [cellsPar0] at f1
    obtain ⟨v1, e1, _, w1⟩ := DataW.trod_int Try.underlying3 f1
    exact ⟨⟨v0, v1⟩, ⟨bounds_i64 w0, bounds_i64 w1⟩, one_cell e0, one_cell e1⟩

set_option maxRecDepth 100000 in
theorem open_Parv {base : Nat} {v : Value} {d : DataW H} {p : List MemPlace} (hok : Value.okWide Try.prog W .any base 47 v) (h : DataW.Trod enc Try.prog W 0 (fun _ => true) true 47 v d p)
    (hb : Fits Try.prog 47 d) : ∃ t : Par, v = .agg #[.int .i64 t.u, .int .i64 t.v] ∧ ParOk W t := by
  obtain ⟨cs, rfl, hsz⟩ := okWide_struct Try.underlying47 hok
  rw [cellsPar] at hsz
  obtain ⟨fuel, hf⟩ := h
  obtain ⟨t, hok, h0, h1⟩ := open_Par1 (x := (d, p)) hf hb
  refine ⟨t, ?_, hok⟩
  have e : (Value.agg cs).cells.toList = cs.toList := rfl
  rw [e] at h0 h1
  simp only [Array.getElem?_toList] at h0 h1
  congr 1
  apply Array.ext'
  match hcs : cs.toList, (show cs.toList.length = 2 by simpa using hsz) with
  | [x0, x1], _ =>
    have q : ∀ i, cs[i]? = [x0, x1][i]? := fun i => by rw [← hcs, Array.getElem?_toList]
    rw [q] at h0 h1
    simp at h0 h1
    rw [h0, h1]

end
end Go.Proofs.Ytepkhohaahmebaa
