/- Opening a law's argument that is a list of calls of streams. -/
import Derived.Test.YtbhbfcncbhhoiaaOpenP
namespace Go.Proofs.Ytbhbfcncbhhoiaa
open Go.ChangeShapes Go.WideShapes Go.ChangeAt Go.RowKit Go.Joins Go.Deep

/-- A number that an int holds. -/
def I64 (n : Int) : Prop := -9223372036854775808 ≤ n ∧ n ≤ 9223372036854775807
/-- A call: which, of which stream, with which bytes. -/
structure Cl where
  k : Int
  i : Int
  x : Pc
/-- What is known of one. -/
structure ClOk (w : World) (y : Cl) : Prop where
  k : I64 y.k
  i : I64 y.i
  x : PcOk w y.x
theorem ClOk.below {w w' : World} {y : Cl} (h : ClOk w y) (hb : Below w.heap.size w w') : ClOk w' y := ⟨h.k, h.i, h.x.below hb⟩
/-- A row of them. -/
def RowO (w : World) (a : Option Addr) (n : Nat) (A : Nat → Cl) : Prop :=
  n = 0 ∨ ∃ b o, a = some ⟨b, o, none⟩ ∧ b < w.heap.size ∧ ∀ i, i < n → w.cell? ⟨b, o + i * 3, none⟩ = some (.int .i64 (A i).k) ∧ w.cell? ⟨b, o + i * 3 + 1, none⟩ = some (.int .i64 (A i).i) ∧ w.cell? ⟨b, o + i * 3 + 2, none⟩ = some (.slice (A i).x.a (A i).x.p.length (A i).x.c)
theorem RowO.here {w : World} {a : Option Addr} {n : Nat} {A : Nat → Cl} (h : RowO w a n A) {i : Nat} (hi : i < n) :
    ∃ b o, a = some ⟨b, o, none⟩ ∧ b < w.heap.size ∧ w.cell? ⟨b, o + i * 3, none⟩ = some (.int .i64 (A i).k) ∧ w.cell? ⟨b, o + i * 3 + 1, none⟩ = some (.int .i64 (A i).i) ∧ w.cell? ⟨b, o + i * 3 + 2, none⟩ = some (.slice (A i).x.a (A i).x.p.length (A i).x.c) := by
  rcases h with h | ⟨b, o, e, hlt, hc⟩
  · omega
  · exact ⟨b, o, e, hlt, hc i hi⟩
structure CameO (w : World) (a : Option Addr) (n : Nat) (A : Nat → Cl) : Prop where
  row : RowO w a n A
  size : n ≤ 140737488351232
  each : ∀ i, i < n → ClOk w (A i)

theorem cellsI : Try.prog.cellsOf 3 = 1 := by kernel_rfl
theorem cellsO : Try.prog.cellsOf 40 = 3 := by kernel_rfl
theorem bytesO : Try.prog.bytesOf 40 = 40 := by kernel_rfl

section
variable {H : Type} {enc : TypeId × Value → H} {W : World}

/-- One call, told by its three cells. -/
def ClAt (W : World) (cs : List Value) (t : Cl) : Prop :=
  ClOk W t ∧ cs[0]? = some (.int .i64 t.k) ∧ cs[1]? = some (.int .i64 t.i) ∧ cs[2]? = some (.slice t.x.a t.x.p.length t.x.c)

set_option maxRecDepth 100000 in
theorem open_op {n : Nat} {cs : List Value} {x : DataW H × List MemPlace} (h : DataW.trod enc Try.prog W 0 (fun _ => true) true n 40 cs = some x) (hb : Fits Try.prog 40 x.1) : ∃ t : Cl, ClAt W cs t := by
  obtain ⟨xs, q, _, rfl, hl, hxl, hf⟩ := DataW.trod_struct Try.underlying40 h
  have hx3 : xs.length = 3 := hxl
  rw [cellsO] at hl
  match xs, hx3 with
  | [y0, y1, y2], _ =>
    have f0 : DataW.trod enc Try.prog W 0 (fun _ => true) true q 3 ((cs.drop 0).take (Try.prog.cellsOf 3)) = some y0 := hf 0 _ rfl
    have f1 : DataW.trod enc Try.prog W 0 (fun _ => true) true q 3 ((cs.drop 1).take (Try.prog.cellsOf 3)) = some y1 := hf 1 _ rfl
    have f2 : DataW.trod enc Try.prog W 0 (fun _ => true) true q 22 ((cs.drop 2).take (Try.prog.cellsOf 22)) = some y2 := hf 2 _ rfl
    rw [cellsI] at f0 f1
    rw [cellsB] at f2
    obtain ⟨k, hk, _, hwk⟩ := DataW.trod_int Try.underlying3 f0
    obtain ⟨m, hm, _, hwm⟩ := DataW.trod_int Try.underlying3 f1
    obtain ⟨v2, hv2⟩ := take_one_of (cs := cs) (j := 2) (by omega)
    have f2' : DataW.trod enc Try.prog W 0 (fun _ => true) true q 22 [v2] = some y2 := by rw [← hv2]; exact f2
    have hb2 : Fits Try.prog 22 y2.1 := fits_field (j := 2) hb Try.underlying40 rfl rfl
    obtain ⟨t, rfl, ht⟩ := open_p f2' hb2
    exact ⟨⟨k, m, t⟩, ⟨bounds_i64 hwk, bounds_i64 hwm, ht⟩, one_cell hk, one_cell hm, one_cell hv2⟩

theorem open_ops {base : Nat} {v : Value} {d : DataW H} {p : List MemPlace} (hok : Value.okWide Try.prog W .any base 30 v) (h : DataW.Trod enc Try.prog W 0 (fun _ => true) true 30 v d p)
    (hb : Fits Try.prog 30 d) :
    ∃ (a : Option Addr) (n cap : Nat) (T : Nat → Cl), v = .slice a n cap ∧ CameO W a n T := by
  obtain ⟨a0, len0, cap0, rfl⟩ := okWide_slice Try.underlying30 hok
  obtain ⟨fuel, hf⟩ := h
  rcases open_slice Try.underlying30 hf with ⟨hcs, hx⟩ | ⟨a, len, cap, m, n, D, Pl, hcs, _, hl, _, hm, hx, hall⟩
  · simp [Value.cells] at hcs
    obtain ⟨rfl, rfl, rfl⟩ := hcs
    exact ⟨none, 0, 0, fun _ => ⟨0, 0, ⟨none, 0, []⟩⟩, rfl, .inl rfl, by omega, fun i hi => by omega⟩
  · simp [Value.cells] at hcs
    obtain ⟨rfl, rfl, rfl⟩ := hcs
    have hd := congrArg Prod.fst hx
    simp only at hd
    subst hd
    have hmc : m = cap0 := by simpa using hm
    have hbl := fits_len hb Try.underlying30
    rw [bytesO] at hbl
    simp at hbl
    unfold reachBytes at hbl
    rw [cellsO] at hall
    have each : ∀ i, ∃ t : Cl, i < len0 → ∃ cs', W.cells? 0 (a.add (i * 3)) 3 = some cs' ∧ ClAt W cs' t := fun i => by
      by_cases hi : i < len0
      · obtain ⟨cs', h1, h2⟩ := hall i (by omega)
        have hmem : D i ∈ (List.range len0).map D := List.mem_map.2 ⟨i, List.mem_range.2 hi, rfl⟩
        obtain ⟨t, ht⟩ := open_op h2 (fits_elem hb Try.underlying30 hmem)
        exact ⟨t, fun _ => ⟨cs', h1, ht⟩⟩
      · exact ⟨⟨0, 0, ⟨none, 0, []⟩⟩, fun h => absurd h hi⟩
    obtain ⟨T, hT⟩ : ∃ T : Nat → Cl, ∀ i, i < len0 → ∃ cs', W.cells? 0 (a.add (i * 3)) 3 = some cs' ∧ ClAt W cs' (T i) := ⟨fun i => (each i).choose, fun i hi => (each i).choose_spec hi⟩
    clear each
    have hcell : ∀ i, i < len0 → W.cell? (a.add (i * 3)) = some (.int .i64 (T i).k) ∧ W.cell? (a.add (i * 3 + 1)) = some (.int .i64 (T i).i) ∧ W.cell? (a.add (i * 3 + 2)) = some (.slice (T i).x.a (T i).x.p.length (T i).x.c) := fun i hi => by
      obtain ⟨cs', h1, ht⟩ := hT i hi
      obtain ⟨_, h3, h4, h5⟩ := ht
      obtain ⟨_, _, hc⟩ := World.cells?_some h1
      refine ⟨?_, ?_, ?_⟩
      · rw [← h3, ← hc 0 (by omega), add_add, Nat.add_zero]
      · rw [← h4, ← hc 1 (by omega), add_add]
      · rw [← h5, ← hc 2 (by omega), add_add]
    refine ⟨some a, len0, cap0, T, rfl, ?_, by omega, fun i hi => ?_⟩
    · by_cases h0 : len0 = 0
      · exact .inl h0
      · obtain ⟨bk, off, spot⟩ := a
        have hspot : spot = none := by
          obtain ⟨q, _⟩ := hcell 0 (by omega)
          simpa [Addr.add] using World.cell?_spot q
        subst hspot
        refine .inr ⟨bk, off, rfl, ?_, fun i hi => ?_⟩
        · obtain ⟨q, _⟩ := hcell 0 (by omega)
          exact World.block_lt_of_cell? W _ q
        · obtain ⟨q0, q1, q2⟩ := hcell i hi
          rw [Addr.add_lit] at q0 q1 q2
          exact ⟨q0, by rw [Nat.add_assoc]; exact q1, by rw [Nat.add_assoc]; exact q2⟩
    · obtain ⟨cs', _, ht⟩ := hT i hi
      exact ht.1
end
end Go.Proofs.Ytbhbfcncbhhoiaa
