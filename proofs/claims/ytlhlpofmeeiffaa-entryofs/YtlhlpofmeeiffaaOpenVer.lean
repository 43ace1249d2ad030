/- Opening a law's argument that is a list of structs: api.Version. -/
import Derived.Test.YtlhlpofmeeiffaaOpenPc
namespace Go.Proofs.Ytlhlpofmeeiffaa
open Go.ChangeShapes Go.WideShapes Go.ChangeAt Go.RowKit Go.Joins Go.Deep

/-- One of api.Version. -/
structure Ver where
  key : ByteArray
  stamp : Int
  val : Pc
  dead : Bool
def zeroVer : Ver := ⟨.empty, 0, ⟨none, 0, []⟩, false⟩
/-- What is known of one. -/
structure VerOk (w : World) (x : Ver) : Prop where
  key : x.key.size ≤ 140737488351232
  stamp : -9223372036854775808 ≤ x.stamp ∧ x.stamp ≤ 9223372036854775807
  val : PcOk w x.val
  dead : True
theorem VerOk.below {w w' : World} {x : Ver} (h : VerOk w x) (hb : Below w.heap.size w w') : VerOk w' x := ⟨h.key, h.stamp, h.val.below hb, h.dead⟩
/-- A row of them. -/
def RowVer (w : World) (a : Option Addr) (n : Nat) (A : Nat → Ver) : Prop :=
  n = 0 ∨ ∃ b o, a = some ⟨b, o, none⟩ ∧ b < w.heap.size ∧ ∀ i, i < n → w.cell? ⟨b, o + i * 4, none⟩ = some (.string (A i).key) ∧ w.cell? ⟨b, o + i * 4 + 1, none⟩ = some (.int .i64 (A i).stamp) ∧ w.cell? ⟨b, o + i * 4 + 2, none⟩ = some (.slice (A i).val.a (A i).val.p.length (A i).val.c) ∧ w.cell? ⟨b, o + i * 4 + 3, none⟩ = some (.bool (A i).dead)
theorem RowVer.here {w : World} {a : Option Addr} {n : Nat} {A : Nat → Ver} (h : RowVer w a n A) {i : Nat} (hi : i < n) :
    ∃ b o, a = some ⟨b, o, none⟩ ∧ b < w.heap.size ∧ w.cell? ⟨b, o + i * 4, none⟩ = some (.string (A i).key) ∧ w.cell? ⟨b, o + i * 4 + 1, none⟩ = some (.int .i64 (A i).stamp) ∧ w.cell? ⟨b, o + i * 4 + 2, none⟩ = some (.slice (A i).val.a (A i).val.p.length (A i).val.c) ∧ w.cell? ⟨b, o + i * 4 + 3, none⟩ = some (.bool (A i).dead) := by
  rcases h with h | ⟨b, o, e, hlt, hc⟩
  · omega
  · exact ⟨b, o, e, hlt, hc i hi⟩
theorem RowVer.below {w w' : World} {a : Option Addr} {n : Nat} {A : Nat → Ver} (h : RowVer w a n A) (hb : Below w.heap.size w w') : RowVer w' a n A := by
  rcases h with h | ⟨b, o, e, hlt, hc⟩
  · exact .inl h
  · refine .inr ⟨b, o, e, Nat.lt_of_lt_of_le hlt hb.size, fun i hi => ?_⟩
    obtain ⟨q0, q1, q2, q3⟩ := hc i hi
    exact ⟨by rw [hb.cell (p := ⟨b, o + i * 4, none⟩) hlt]; exact q0, by rw [hb.cell (p := ⟨b, o + i * 4 + 1, none⟩) hlt]; exact q1, by rw [hb.cell (p := ⟨b, o + i * 4 + 2, none⟩) hlt]; exact q2, by rw [hb.cell (p := ⟨b, o + i * 4 + 3, none⟩) hlt]; exact q3⟩
structure CameVer (w : World) (a : Option Addr) (n : Nat) (A : Nat → Ver) : Prop where
  row : RowVer w a n A
  size : n ≤ 2513169434843
  each : ∀ i, i < n → VerOk w (A i)
theorem CameVer.below {w w' : World} {a : Option Addr} {n : Nat} {A : Nat → Ver} (h : CameVer w a n A) (hb : Below w.heap.size w w') : CameVer w' a n A := ⟨h.row.below hb, h.size, fun i hi => (h.each i hi).below hb⟩

theorem cellsVer0 : Try.prog.cellsOf 9 = 1 := by kernel_rfl
theorem cellsVer1 : Try.prog.cellsOf 3 = 1 := by kernel_rfl
theorem cellsVer2 : Try.prog.cellsOf 23 = 1 := by kernel_rfl
theorem cellsVer3 : Try.prog.cellsOf 4 = 1 := by kernel_rfl
theorem cellsVer : Try.prog.cellsOf 42 = 4 := by kernel_rfl
theorem bytesVer : Try.prog.bytesOf 42 = 56 := by kernel_rfl

section
variable {H : Type} {enc : TypeId × Value → H} {W : World}

/-- One, told by its cells. -/
def VerAt (W : World) (cs : List Value) (t : Ver) : Prop := VerOk W t ∧ cs[0]? = some (.string t.key) ∧ cs[1]? = some (.int .i64 t.stamp) ∧ cs[2]? = some (.slice t.val.a t.val.p.length t.val.c) ∧ cs[3]? = some (.bool t.dead)

set_option maxRecDepth 100000 in
theorem open_Ver1 {n : Nat} {cs : List Value} {x : DataW H × List MemPlace} (h : DataW.trod enc Try.prog W 0 (fun _ => true) true n 42 cs = some x) (hb : Fits Try.prog 42 x.1) : ∃ t : Ver, VerAt W cs t := by
  obtain ⟨xs, q, _, rfl, hl, hxl, hf⟩ := DataW.trod_struct Try.underlying42 h
  have hxm : xs.length = 4 := hxl
  rw [cellsVer] at hl
  match xs, hxm with
  | [y0, y1, y2, y3], _ =>
    have f0 : DataW.trod enc Try.prog W 0 (fun _ => true) true q 9 ((cs.drop 0).take (Try.prog.cellsOf 9)) = some y0 := hf 0 _ rfl
    rw [cellsVer0] at f0
    obtain ⟨v0, e0, z0, _⟩ := DataW.trod_string Try.underlying9 f0
    have g0 : Fits Try.prog 9 y0.1 := fits_field (j := 0) hb Try.underlying42 rfl rfl
    have s0 : v0.size ≤ 140737488351232 := by
      rw [z0] at g0
      have h1 := g0 v0.data.toList.length (by simp [DataW.weights])
      unfold reachBytes at h1
      rw [Array.length_toList] at h1
      exact h1
    have f1 : DataW.trod enc Try.prog W 0 (fun _ => true) true q 3 ((cs.drop 1).take (Try.prog.cellsOf 3)) = some y1 := hf 1 _ rfl
    rw [cellsVer1] at f1
    obtain ⟨v1, e1, _, w1⟩ := DataW.trod_int Try.underlying3 f1
    have f2 : DataW.trod enc Try.prog W 0 (fun _ => true) true q 23 ((cs.drop 2).take (Try.prog.cellsOf 23)) = some y2 := hf 2 _ rfl
    rw [cellsVer2] at f2
    obtain ⟨u2, e2⟩ := take_one_of (cs := cs) (j := 2) (by omega)
    have p2 : DataW.trod enc Try.prog W 0 (fun _ => true) true q 23 [u2] = some y2 := by rw [← e2]; exact f2
    have g2 : Fits Try.prog 23 y2.1 := fits_field (j := 2) hb Try.underlying42 rfl rfl
    obtain ⟨v2, rfl, k2⟩ := open_p p2 g2
    have f3 : DataW.trod enc Try.prog W 0 (fun _ => true) true q 4 ((cs.drop 3).take (Try.prog.cellsOf 4)) = some y3 := hf 3 _ rfl
    rw [cellsVer3] at f3
    obtain ⟨v3, e3, _⟩ := DataW.trod_bool Try.underlying4 f3
    exact ⟨⟨v0, v1, v2, v3⟩, ⟨s0, bounds_i64 w1, k2, trivial⟩, one_cell e0, one_cell e1, one_cell e2, one_cell e3⟩

set_option maxRecDepth 100000 in
theorem open_Verv {base : Nat} {v : Value} {d : DataW H} {p : List MemPlace} (hok : Value.okWide Try.prog W .any base 42 v) (h : DataW.Trod enc Try.prog W 0 (fun _ => true) true 42 v d p)
    (hb : Fits Try.prog 42 d) : ∃ t : Ver, v = .agg #[.string t.key, .int .i64 t.stamp, .slice t.val.a t.val.p.length t.val.c, .bool t.dead] ∧ VerOk W t := by
  obtain ⟨cs, rfl, hsz⟩ := okWide_struct Try.underlying42 hok
  rw [cellsVer] at hsz
  obtain ⟨fuel, hf⟩ := h
  obtain ⟨t, hok, h0, h1, h2, h3⟩ := open_Ver1 (x := (d, p)) hf hb
  refine ⟨t, ?_, hok⟩
  have e : (Value.agg cs).cells.toList = cs.toList := rfl
  rw [e] at h0 h1 h2 h3
  simp only [Array.getElem?_toList] at h0 h1 h2 h3
  congr 1
  apply Array.ext'
  match hcs : cs.toList, (show cs.toList.length = 4 by simpa using hsz) with
  | [x0, x1, x2, x3], _ =>
    have q : ∀ i, cs[i]? = [x0, x1, x2, x3][i]? := fun i => by rw [← hcs, Array.getElem?_toList]
    rw [q] at h0 h1 h2 h3
    simp at h0 h1 h2 h3
    rw [h0, h1, h2, h3]

end
end Go.Proofs.Ytlhlpofmeeiffaa
