/- Opening a law's argument that is a list of structs: cloisterlaw16.Step. -/
import Derived.Test.YtbafjkanbbcbgaaOpenPc
import Derived.Test.YtbafjkanbbcbgaaOpenPq
namespace Go.Proofs.Ytbafjkanbbcbgaa
open Go.ChangeShapes Go.WideShapes Go.ChangeAt Go.RowKit Go.Joins Go.Deep

/-- One of cloisterlaw16.Step. -/
structure Sq where
  kind : Int
  key : ByteArray
  to : ByteArray
  value : Pc
  undera : Option Addr
  undern : Nat
  underc : Nat
  under : Nat → Pq
  n : Int
def zeroSq : Sq := ⟨0, .empty, .empty, ⟨none, 0, []⟩, none, 0, 0, fun _ => zeroPq, 0⟩
/-- What is known of one. -/
structure SqOk (w : World) (x : Sq) : Prop where
  kind : -9223372036854775808 ≤ x.kind ∧ x.kind ≤ 9223372036854775807
  key : x.key.size ≤ 140737488351232
  to : x.to.size ≤ 140737488351232
  value : PcOk w x.value
  under : CamePq w x.undera x.undern x.under
  n : -9223372036854775808 ≤ x.n ∧ x.n ≤ 9223372036854775807
theorem SqOk.below {w w' : World} {x : Sq} (h : SqOk w x) (hb : Below w.heap.size w w') : SqOk w' x := ⟨h.kind, h.key, h.to, h.value.below hb, h.under.below hb, h.n⟩
/-- A row of them. -/
def RowSq (w : World) (a : Option Addr) (n : Nat) (A : Nat → Sq) : Prop :=
  n = 0 ∨ ∃ b o, a = some ⟨b, o, none⟩ ∧ b < w.heap.size ∧ ∀ i, i < n → w.cell? ⟨b, o + i * 6, none⟩ = some (.int .i64 (A i).kind) ∧ w.cell? ⟨b, o + i * 6 + 1, none⟩ = some (.string (A i).key) ∧ w.cell? ⟨b, o + i * 6 + 2, none⟩ = some (.string (A i).to) ∧ w.cell? ⟨b, o + i * 6 + 3, none⟩ = some (.slice (A i).value.a (A i).value.p.length (A i).value.c) ∧ w.cell? ⟨b, o + i * 6 + 4, none⟩ = some (.slice (A i).undera (A i).undern (A i).underc) ∧ w.cell? ⟨b, o + i * 6 + 5, none⟩ = some (.int .i64 (A i).n)
theorem RowSq.here {w : World} {a : Option Addr} {n : Nat} {A : Nat → Sq} (h : RowSq w a n A) {i : Nat} (hi : i < n) :
    ∃ b o, a = some ⟨b, o, none⟩ ∧ b < w.heap.size ∧ w.cell? ⟨b, o + i * 6, none⟩ = some (.int .i64 (A i).kind) ∧ w.cell? ⟨b, o + i * 6 + 1, none⟩ = some (.string (A i).key) ∧ w.cell? ⟨b, o + i * 6 + 2, none⟩ = some (.string (A i).to) ∧ w.cell? ⟨b, o + i * 6 + 3, none⟩ = some (.slice (A i).value.a (A i).value.p.length (A i).value.c) ∧ w.cell? ⟨b, o + i * 6 + 4, none⟩ = some (.slice (A i).undera (A i).undern (A i).underc) ∧ w.cell? ⟨b, o + i * 6 + 5, none⟩ = some (.int .i64 (A i).n) := by
  rcases h with h | ⟨b, o, e, hlt, hc⟩
  · omega
  · exact ⟨b, o, e, hlt, hc i hi⟩
theorem RowSq.below {w w' : World} {a : Option Addr} {n : Nat} {A : Nat → Sq} (h : RowSq w a n A) (hb : Below w.heap.size w w') : RowSq w' a n A := by
  rcases h with h | ⟨b, o, e, hlt, hc⟩
  · exact .inl h
  · refine .inr ⟨b, o, e, Nat.lt_of_lt_of_le hlt hb.size, fun i hi => ?_⟩
    obtain ⟨q0, q1, q2, q3, q4, q5⟩ := hc i hi
    exact ⟨by rw [hb.cell (p := ⟨b, o + i * 6, none⟩) hlt]; exact q0, by rw [hb.cell (p := ⟨b, o + i * 6 + 1, none⟩) hlt]; exact q1, by rw [hb.cell (p := ⟨b, o + i * 6 + 2, none⟩) hlt]; exact q2, by rw [hb.cell (p := ⟨b, o + i * 6 + 3, none⟩) hlt]; exact q3, by rw [hb.cell (p := ⟨b, o + i * 6 + 4, none⟩) hlt]; exact q4, by rw [hb.cell (p := ⟨b, o + i * 6 + 5, none⟩) hlt]; exact q5⟩
structure CameSq (w : World) (a : Option Addr) (n : Nat) (A : Nat → Sq) : Prop where
  row : RowSq w a n A
  size : n ≤ 1466015503658
  each : ∀ i, i < n → SqOk w (A i)
theorem CameSq.below {w w' : World} {a : Option Addr} {n : Nat} {A : Nat → Sq} (h : CameSq w a n A) (hb : Below w.heap.size w w') : CameSq w' a n A := ⟨h.row.below hb, h.size, fun i hi => (h.each i hi).below hb⟩

theorem cellsSq0 : Try.prog.cellsOf 3 = 1 := by kernel_rfl
theorem cellsSq1 : Try.prog.cellsOf 9 = 1 := by kernel_rfl
theorem cellsSq2 : Try.prog.cellsOf 34 = 1 := by kernel_rfl
theorem cellsSq3 : Try.prog.cellsOf 35 = 1 := by kernel_rfl
theorem cellsSq : Try.prog.cellsOf 37 = 6 := by kernel_rfl
theorem bytesSq : Try.prog.bytesOf 37 = 96 := by kernel_rfl

section
variable {H : Type} {enc : TypeId × Value → H} {W : World}

/-- One, told by its cells. -/
def SqAt (W : World) (cs : List Value) (t : Sq) : Prop := SqOk W t ∧ cs[0]? = some (.int .i64 t.kind) ∧ cs[1]? = some (.string t.key) ∧ cs[2]? = some (.string t.to) ∧ cs[3]? = some (.slice t.value.a t.value.p.length t.value.c) ∧ cs[4]? = some (.slice t.undera t.undern t.underc) ∧ cs[5]? = some (.int .i64 t.n)

set_option maxRecDepth 100000 in
theorem open_Sq1 {n : Nat} {cs : List Value} {x : DataW H × List MemPlace} (h : DataW.trod enc Try.prog W 0 (fun _ => true) true n 37 cs = some x) (hb : Fits Try.prog 37 x.1) : ∃ t : Sq, SqAt W cs t := by
  obtain ⟨xs, q, _, rfl, hl, hxl, hf⟩ := DataW.trod_struct Try.underlying37 h
  have hxm : xs.length = 6 := hxl
  rw [cellsSq] at hl
  match xs, hxm with
  | [y0, y1, y2, y3, y4, y5], _ =>
    have f0 : DataW.trod enc Try.prog W 0 (fun _ => true) true q 3 ((cs.drop 0).take (Try.prog.cellsOf 3)) = some y0 := hf 0 _ rfl
    rw [cellsSq0] at f0
    obtain ⟨v0, e0, _, w0⟩ := DataW.trod_int Try.underlying3 f0
    have f1 : DataW.trod enc Try.prog W 0 (fun _ => true) true q 9 ((cs.drop 1).take (Try.prog.cellsOf 9)) = some y1 := hf 1 _ rfl
    rw [cellsSq1] at f1
    obtain ⟨v1, e1, z1, _⟩ := DataW.trod_string Try.underlying9 f1
    have g1 : Fits Try.prog 9 y1.1 := fits_field (j := 1) hb Try.underlying37 rfl rfl
    have s1 : v1.size ≤ 140737488351232 := by
      rw [z1] at g1
      have h1 := g1 v1.data.toList.length (by simp [DataW.weights])
      unfold reachBytes at h1
      rw [Array.length_toList] at h1
      exact h1
    have f2 : DataW.trod enc Try.prog W 0 (fun _ => true) true q 9 ((cs.drop 2).take (Try.prog.cellsOf 9)) = some y2 := hf 2 _ rfl
    rw [cellsSq1] at f2
    obtain ⟨v2, e2, z2, _⟩ := DataW.trod_string Try.underlying9 f2
    have g2 : Fits Try.prog 9 y2.1 := fits_field (j := 2) hb Try.underlying37 rfl rfl
    have s2 : v2.size ≤ 140737488351232 := by
      rw [z2] at g2
      have h1 := g2 v2.data.toList.length (by simp [DataW.weights])
      unfold reachBytes at h1
      rw [Array.length_toList] at h1
      exact h1
    have f3 : DataW.trod enc Try.prog W 0 (fun _ => true) true q 34 ((cs.drop 3).take (Try.prog.cellsOf 34)) = some y3 := hf 3 _ rfl
    rw [cellsSq2] at f3
    obtain ⟨u3, e3⟩ := take_one_of (cs := cs) (j := 3) (by omega)
    have p3 : DataW.trod enc Try.prog W 0 (fun _ => true) true q 34 [u3] = some y3 := by rw [← e3]; exact f3
    have g3 : Fits Try.prog 34 y3.1 := fits_field (j := 3) hb Try.underlying37 rfl rfl
    obtain ⟨v3, rfl, k3⟩ := open_p p3 g3
    have f4 : DataW.trod enc Try.prog W 0 (fun _ => true) true q 35 ((cs.drop 4).take (Try.prog.cellsOf 35)) = some y4 := hf 4 _ rfl
    rw [cellsSq3] at f4
    obtain ⟨u4, e4⟩ := take_one_of (cs := cs) (j := 4) (by omega)
    have p4 : DataW.trod enc Try.prog W 0 (fun _ => true) true q 35 [u4] = some y4 := by rw [← e4]; exact f4
    have g4 : Fits Try.prog 35 y4.1 := fits_field (j := 4) hb Try.underlying37 rfl rfl
    obtain ⟨a4, n4, c4, v4, rfl, k4⟩ := open_Pqc p4 g4
    have f5 : DataW.trod enc Try.prog W 0 (fun _ => true) true q 3 ((cs.drop 5).take (Try.prog.cellsOf 3)) = some y5 := hf 5 _ rfl
    rw [cellsSq0] at f5
    obtain ⟨v5, e5, _, w5⟩ := DataW.trod_int Try.underlying3 f5
    exact ⟨⟨v0, v1, v2, v3, a4, n4, c4, v4, v5⟩, ⟨bounds_i64 w0, s1, s2, k3, k4, bounds_i64 w5⟩, one_cell e0, one_cell e1, one_cell e2, one_cell e3, one_cell e4, one_cell e5⟩

set_option maxRecDepth 100000 in
theorem open_Sqv {base : Nat} {v : Value} {d : DataW H} {p : List MemPlace} (hok : Value.okWide Try.prog W .any base 37 v) (h : DataW.Trod enc Try.prog W 0 (fun _ => true) true 37 v d p)
    (hb : Fits Try.prog 37 d) : ∃ t : Sq, v = .agg #[.int .i64 t.kind, .string t.key, .string t.to, .slice t.value.a t.value.p.length t.value.c, .slice t.undera t.undern t.underc, .int .i64 t.n] ∧ SqOk W t := by
  obtain ⟨cs, rfl, hsz⟩ := okWide_struct Try.underlying37 hok
  rw [cellsSq] at hsz
  obtain ⟨fuel, hf⟩ := h
  obtain ⟨t, hok, h0, h1, h2, h3, h4, h5⟩ := open_Sq1 (x := (d, p)) hf hb
  refine ⟨t, ?_, hok⟩
  have e : (Value.agg cs).cells.toList = cs.toList := rfl
  rw [e] at h0 h1 h2 h3 h4 h5
  simp only [Array.getElem?_toList] at h0 h1 h2 h3 h4 h5
  congr 1
  apply Array.ext'
  match hcs : cs.toList, (show cs.toList.length = 6 by simpa using hsz) with
  | [x0, x1, x2, x3, x4, x5], _ =>
    have q : ∀ i, cs[i]? = [x0, x1, x2, x3, x4, x5][i]? := fun i => by rw [← hcs, Array.getElem?_toList]
    rw [q] at h0 h1 h2 h3 h4 h5
    simp at h0 h1 h2 h3 h4 h5
    rw [h0, h1, h2, h3, h4, h5]

end
end Go.Proofs.Ytbafjkanbbcbgaa
