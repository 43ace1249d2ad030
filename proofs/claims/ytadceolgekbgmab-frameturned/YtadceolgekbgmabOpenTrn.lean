/- Opening a law's argument that is a list of structs: cloisterlaw09.Turn. -/
import Derived.Test.YtadceolgekbgmabOpenPc
namespace Go.Proofs.Ytadceolgekbgmab
open Go.ChangeShapes Go.WideShapes Go.ChangeAt Go.RowKit Go.Joins Go.Deep

/-- One of cloisterlaw09.Turn. -/
structure Trn where
  pl : Int
  tb : Nat
def zeroTrn : Trn := ⟨0, 0⟩
/-- What is known of one. -/
structure TrnOk (w : World) (x : Trn) : Prop where
  pl : -9223372036854775808 ≤ x.pl ∧ x.pl ≤ 9223372036854775807
  tb : x.tb < 256
theorem TrnOk.below {w w' : World} {x : Trn} (h : TrnOk w x) (_hb : Below w.heap.size w w') : TrnOk w' x := ⟨h.pl, h.tb⟩
/-- A row of them. -/
def RowTrn (w : World) (a : Option Addr) (n : Nat) (A : Nat → Trn) : Prop :=
  n = 0 ∨ ∃ b o, a = some ⟨b, o, none⟩ ∧ b < w.heap.size ∧ ∀ i, i < n → w.cell? ⟨b, o + i * 2, none⟩ = some (.int .i64 (A i).pl) ∧ w.cell? ⟨b, o + i * 2 + 1, none⟩ = some (.int .u8 ((A i).tb : Int))
theorem RowTrn.here {w : World} {a : Option Addr} {n : Nat} {A : Nat → Trn} (h : RowTrn w a n A) {i : Nat} (hi : i < n) :
    ∃ b o, a = some ⟨b, o, none⟩ ∧ b < w.heap.size ∧ w.cell? ⟨b, o + i * 2, none⟩ = some (.int .i64 (A i).pl) ∧ w.cell? ⟨b, o + i * 2 + 1, none⟩ = some (.int .u8 ((A i).tb : Int)) := by
  rcases h with h | ⟨b, o, e, hlt, hc⟩
  · omega
  · exact ⟨b, o, e, hlt, hc i hi⟩
theorem RowTrn.below {w w' : World} {a : Option Addr} {n : Nat} {A : Nat → Trn} (h : RowTrn w a n A) (hb : Below w.heap.size w w') : RowTrn w' a n A := by
  rcases h with h | ⟨b, o, e, hlt, hc⟩
  · exact .inl h
  · refine .inr ⟨b, o, e, Nat.lt_of_lt_of_le hlt hb.size, fun i hi => ?_⟩
    obtain ⟨q0, q1⟩ := hc i hi
    exact ⟨by rw [hb.cell (p := ⟨b, o + i * 2, none⟩) hlt]; exact q0, by rw [hb.cell (p := ⟨b, o + i * 2 + 1, none⟩) hlt]; exact q1⟩
structure CameTrn (w : World) (a : Option Addr) (n : Nat) (A : Nat → Trn) : Prop where
  row : RowTrn w a n A
  size : n ≤ 8796093021952
  each : ∀ i, i < n → TrnOk w (A i)
theorem CameTrn.below {w w' : World} {a : Option Addr} {n : Nat} {A : Nat → Trn} (h : CameTrn w a n A) (hb : Below w.heap.size w w') : CameTrn w' a n A := ⟨h.row.below hb, h.size, fun i hi => (h.each i hi).below hb⟩

theorem cellsTrn0 : Try.prog.cellsOf 3 = 1 := by kernel_rfl
theorem cellsTrn1 : Try.prog.cellsOf 5 = 1 := by kernel_rfl
theorem cellsTrn : Try.prog.cellsOf 34 = 2 := by kernel_rfl
theorem bytesTrn : Try.prog.bytesOf 34 = 16 := by kernel_rfl

section
variable {H : Type} {enc : TypeId × Value → H} {W : World}

/-- One, told by its cells. -/
def TrnAt (W : World) (cs : List Value) (t : Trn) : Prop := TrnOk W t ∧ cs[0]? = some (.int .i64 t.pl) ∧ cs[1]? = some (.int .u8 (t.tb : Int))

set_option maxRecDepth 100000 in
theorem open_Trn1 {n : Nat} {cs : List Value} {x : DataW H × List MemPlace} (h : DataW.trod enc Try.prog W 0 (fun _ => true) true n 34 cs = some x) (hb : Fits Try.prog 34 x.1) : ∃ t : Trn, TrnAt W cs t := by
  obtain ⟨xs, q, _, rfl, hl, hxl, hf⟩ := DataW.trod_struct Try.underlying34 h
  have hxm : xs.length = 2 := hxl
  rw [cellsTrn] at hl
  match xs, hxm with
  | [y0, y1], _ =>
    have f0 : DataW.trod enc Try.prog W 0 (fun _ => true) true q 3 ((cs.drop 0).take (Try.prog.cellsOf 3)) = some y0 := hf 0 _ rfl
    rw [cellsTrn0] at f0
    obtain ⟨v0, e0, _, w0⟩ := DataW.trod_int Try.underlying3 f0
    have f1 : DataW.trod enc Try.prog W 0 (fun _ => true) true q 5 ((cs.drop 1).take (Try.prog.cellsOf 5)) = some y1 := hf 1 _ rfl
    rw [cellsTrn1] at f1
    obtain ⟨i1, e1, _, w1⟩ := DataW.trod_int Try.underlying5 f1
    obtain ⟨v1, rfl⟩ : ∃ y : Nat, i1 = (y : Int) := ⟨i1.toNat, by have := bounds_u8' w1; omega⟩
    exact ⟨⟨v0, v1⟩, ⟨bounds_i64 w0, (show v1 < 256 by have := bounds_u8' w1; omega)⟩, one_cell e0, one_cell e1⟩

set_option maxRecDepth 100000 in
theorem open_Trnv {base : Nat} {v : Value} {d : DataW H} {p : List MemPlace} (hok : Value.okWide Try.prog W .any base 34 v) (h : DataW.Trod enc Try.prog W 0 (fun _ => true) true 34 v d p)
    (hb : Fits Try.prog 34 d) : ∃ t : Trn, v = .agg #[.int .i64 t.pl, .int .u8 (t.tb : Int)] ∧ TrnOk W t := by
  obtain ⟨cs, rfl, hsz⟩ := okWide_struct Try.underlying34 hok
  rw [cellsTrn] at hsz
  obtain ⟨fuel, hf⟩ := h
  obtain ⟨t, hok, h0, h1⟩ := open_Trn1 (x := (d, p)) hf hb
  refine ⟨t, ?_, hok⟩
  have e : (Value.agg cs).cells.toList = cs.toList := rfl
  rw [e] at h0 h1
  simp only [Array.getElem?_toList] at h0 h1
  congr 1
  apply Array.ext'
  match hcs : cs.toList, (show cs.toList.length = 2 by simpa using hsz) with
  | [x0, x1], _ =>
    have q : ∀ i, cs[i]? = [x0, x1][i]? := fun i => by rw [← hcs, Array.getElem?_toList]
    rw [q] at h0 h1
    simp at h0 h1
    rw [h0, h1]

end
end Go.Proofs.Ytadceolgekbgmab
