/- Opening a law's argument that is a list of structs: api.Fate. -/
import Derived.Test.YtkacfpmninmjkaaOpenPc
namespace Go.Proofs.Ytkacfpmninmjkaa
open Go.ChangeShapes Go.WideShapes Go.ChangeAt Go.RowKit Go.Joins Go.Deep

/-- One of api.Fate. -/
structure Fte where
  d : Int
  k : Int
  t : Nat
def zeroFte : Fte := ⟨0, 0, 0⟩
/-- What is known of one. -/
structure FteOk (w : World) (x : Fte) : Prop where
  d : -9223372036854775808 ≤ x.d ∧ x.d ≤ 9223372036854775807
  k : -9223372036854775808 ≤ x.k ∧ x.k ≤ 9223372036854775807
  t : x.t < 256
theorem FteOk.below {w w' : World} {x : Fte} (h : FteOk w x) (_hb : Below w.heap.size w w') : FteOk w' x := ⟨h.d, h.k, h.t⟩
/-- A row of them. -/
def RowFte (w : World) (a : Option Addr) (n : Nat) (A : Nat → Fte) : Prop :=
  n = 0 ∨ ∃ b o, a = some ⟨b, o, none⟩ ∧ b < w.heap.size ∧ ∀ i, i < n → w.cell? ⟨b, o + i * 3, none⟩ = some (.int .i64 (A i).d) ∧ w.cell? ⟨b, o + i * 3 + 1, none⟩ = some (.int .i64 (A i).k) ∧ w.cell? ⟨b, o + i * 3 + 2, none⟩ = some (.int .u8 ((A i).t : Int))
theorem RowFte.here {w : World} {a : Option Addr} {n : Nat} {A : Nat → Fte} (h : RowFte w a n A) {i : Nat} (hi : i < n) :
    ∃ b o, a = some ⟨b, o, none⟩ ∧ b < w.heap.size ∧ w.cell? ⟨b, o + i * 3, none⟩ = some (.int .i64 (A i).d) ∧ w.cell? ⟨b, o + i * 3 + 1, none⟩ = some (.int .i64 (A i).k) ∧ w.cell? ⟨b, o + i * 3 + 2, none⟩ = some (.int .u8 ((A i).t : Int)) := by
  rcases h with h | ⟨b, o, e, hlt, hc⟩
  · omega
  · exact ⟨b, o, e, hlt, hc i hi⟩
theorem RowFte.below {w w' : World} {a : Option Addr} {n : Nat} {A : Nat → Fte} (h : RowFte w a n A) (hb : Below w.heap.size w w') : RowFte w' a n A := by
  rcases h with h | ⟨b, o, e, hlt, hc⟩
  · exact .inl h
  · refine .inr ⟨b, o, e, Nat.lt_of_lt_of_le hlt hb.size, fun i hi => ?_⟩
    obtain ⟨q0, q1, q2⟩ := hc i hi
    exact ⟨by rw [hb.cell (p := ⟨b, o + i * 3, none⟩) hlt]; exact q0, by rw [hb.cell (p := ⟨b, o + i * 3 + 1, none⟩) hlt]; exact q1, by rw [hb.cell (p := ⟨b, o + i * 3 + 2, none⟩) hlt]; exact q2⟩
structure CameFte (w : World) (a : Option Addr) (n : Nat) (A : Nat → Fte) : Prop where
  row : RowFte w a n A
  size : n ≤ 5864062014634
  each : ∀ i, i < n → FteOk w (A i)
theorem CameFte.below {w w' : World} {a : Option Addr} {n : Nat} {A : Nat → Fte} (h : CameFte w a n A) (hb : Below w.heap.size w w') : CameFte w' a n A := ⟨h.row.below hb, h.size, fun i hi => (h.each i hi).below hb⟩

theorem cellsFte0 : Try.prog.cellsOf 3 = 1 := by kernel_rfl
theorem cellsFte1 : Try.prog.cellsOf 5 = 1 := by kernel_rfl
theorem cellsFte : Try.prog.cellsOf 60 = 3 := by kernel_rfl
theorem bytesFte : Try.prog.bytesOf 60 = 24 := by kernel_rfl

section
variable {H : Type} {enc : TypeId × Value → H} {W : World}

/-- One, told by its cells. -/
def FteAt (W : World) (cs : List Value) (t : Fte) : Prop := FteOk W t ∧ cs[0]? = some (.int .i64 t.d) ∧ cs[1]? = some (.int .i64 t.k) ∧ cs[2]? = some (.int .u8 (t.t : Int))

set_option maxRecDepth 100000 in
theorem open_Fte1 {n : Nat} {cs : List Value} {x : DataW H × List MemPlace} (h : DataW.trod enc Try.prog W 0 (fun _ => true) true n 60 cs = some x) (hb : Fits Try.prog 60 x.1) : ∃ t : Fte, FteAt W cs t := by
  obtain ⟨xs, q, _, rfl, hl, hxl, hf⟩ := DataW.trod_struct Try.underlying60 h
  have hxm : xs.length = 3 := hxl
  rw [cellsFte] at hl
  match xs, hxm with
  | [y0, y1, y2], _ =>
    have f0 : DataW.trod enc Try.prog W 0 (fun _ => true) true q 3 ((cs.drop 0).take (Try.prog.cellsOf 3)) = some y0 := hf 0 _ rfl
    rw [cellsFte0] at f0
    obtain ⟨v0, e0, _, w0⟩ := DataW.trod_int Try.underlying3 f0
    have f1 : DataW.trod enc Try.prog W 0 (fun _ => true) true q 3 ((cs.drop 1).take (Try.prog.cellsOf 3)) = some y1 := hf 1 _ rfl
    rw [cellsFte0] at f1
    obtain ⟨v1, e1, _, w1⟩ := DataW.trod_int Try.underlying3 f1
    have f2 : DataW.trod enc Try.prog W 0 (fun _ => true) true q 5 ((cs.drop 2).take (Try.prog.cellsOf 5)) = some y2 := hf 2 _ rfl
    rw [cellsFte1] at f2
    obtain ⟨i2, e2, _, w2⟩ := DataW.trod_int Try.underlying5 f2
    obtain ⟨v2, rfl⟩ : ∃ y : Nat, i2 = (y : Int) := ⟨i2.toNat, by have := bounds_u8' w2; omega⟩
    exact ⟨⟨v0, v1, v2⟩, ⟨bounds_i64 w0, bounds_i64 w1, (show v2 < 256 by have := bounds_u8' w2; omega)⟩, one_cell e0, one_cell e1, one_cell e2⟩

set_option maxRecDepth 100000 in
theorem open_Ftev {base : Nat} {v : Value} {d : DataW H} {p : List MemPlace} (hok : Value.okWide Try.prog W .any base 60 v) (h : DataW.Trod enc Try.prog W 0 (fun _ => true) true 60 v d p)
    (hb : Fits Try.prog 60 d) : ∃ t : Fte, v = .agg #[.int .i64 t.d, .int .i64 t.k, .int .u8 (t.t : Int)] ∧ FteOk W t := by
  obtain ⟨cs, rfl, hsz⟩ := okWide_struct Try.underlying60 hok
  rw [cellsFte] at hsz
  obtain ⟨fuel, hf⟩ := h
  obtain ⟨t, hok, h0, h1, h2⟩ := open_Fte1 (x := (d, p)) hf hb
  refine ⟨t, ?_, hok⟩
  have e : (Value.agg cs).cells.toList = cs.toList := rfl
  rw [e] at h0 h1 h2
  simp only [Array.getElem?_toList] at h0 h1 h2
  congr 1
  apply Array.ext'
  match hcs : cs.toList, (show cs.toList.length = 3 by simpa using hsz) with
  | [x0, x1, x2], _ =>
    have q : ∀ i, cs[i]? = [x0, x1, x2][i]? := fun i => by rw [← hcs, Array.getElem?_toList]
    rw [q] at h0 h1 h2
    simp at h0 h1 h2
    rw [h0, h1, h2]




























































end
end Go.Proofs.Ytkacfpmninmjkaa
