/- Opening a law's argument that is a list of structs: cloisterlaw12.Start. -/
import Derived.Test.YthlkegemkkepgaaOpenPc
namespace Go.Proofs.Ythlkegemkkepgaa
open Go.ChangeShapes Go.WideShapes Go.ChangeAt Go.RowKit Go.Joins Go.Deep

/-- One of cloisterlaw12.Start. -/
structure Sta where
  a : Int
  b : Int
def zeroSta : Sta := ⟨0, 0⟩
/-- What is known of one. -/
structure StaOk (w : World) (x : Sta) : Prop where
  a : -9223372036854775808 ≤ x.a ∧ x.a ≤ 9223372036854775807
  b : -9223372036854775808 ≤ x.b ∧ x.b ≤ 9223372036854775807
theorem StaOk.below {w w' : World} {x : Sta} (h : StaOk w x) (_hb : Below w.heap.size w w') : StaOk w' x := ⟨h.a, h.b⟩
/-- A row of them. -/
def RowSta (w : World) (a : Option Addr) (n : Nat) (A : Nat → Sta) : Prop :=
  n = 0 ∨ ∃ b o, a = some ⟨b, o, none⟩ ∧ b < w.heap.size ∧ ∀ i, i < n → w.cell? ⟨b, o + i * 2, none⟩ = some (.int .i64 (A i).a) ∧ w.cell? ⟨b, o + i * 2 + 1, none⟩ = some (.int .i64 (A i).b)
theorem RowSta.here {w : World} {a : Option Addr} {n : Nat} {A : Nat → Sta} (h : RowSta w a n A) {i : Nat} (hi : i < n) :
    ∃ b o, a = some ⟨b, o, none⟩ ∧ b < w.heap.size ∧ w.cell? ⟨b, o + i * 2, none⟩ = some (.int .i64 (A i).a) ∧ w.cell? ⟨b, o + i * 2 + 1, none⟩ = some (.int .i64 (A i).b) := by
  rcases h with h | ⟨b, o, e, hlt, hc⟩
  · omega
  · exact ⟨b, o, e, hlt, hc i hi⟩
theorem RowSta.below {w w' : World} {a : Option Addr} {n : Nat} {A : Nat → Sta} (h : RowSta w a n A) (hb : Below w.heap.size w w') : RowSta w' a n A := by
  rcases h with h | ⟨b, o, e, hlt, hc⟩
  · exact .inl h
  · refine .inr ⟨b, o, e, Nat.lt_of_lt_of_le hlt hb.size, fun i hi => ?_⟩
    obtain ⟨q0, q1⟩ := hc i hi
    exact ⟨by rw [hb.cell (p := ⟨b, o + i * 2, none⟩) hlt]; exact q0, by rw [hb.cell (p := ⟨b, o + i * 2 + 1, none⟩) hlt]; exact q1⟩
structure CameSta (w : World) (a : Option Addr) (n : Nat) (A : Nat → Sta) : Prop where
  row : RowSta w a n A
  size : n ≤ 8796093021952
  each : ∀ i, i < n → StaOk w (A i)
theorem CameSta.below {w w' : World} {a : Option Addr} {n : Nat} {A : Nat → Sta} (h : CameSta w a n A) (hb : Below w.heap.size w w') : CameSta w' a n A := ⟨h.row.below hb, h.size, fun i hi => (h.each i hi).below hb⟩

theorem cellsSta0 : Try.prog.cellsOf 3 = 1 := by kernel_rfl
theorem cellsSta : Try.prog.cellsOf 61 = 2 := by kernel_rfl
theorem bytesSta : Try.prog.bytesOf 61 = 16 := by kernel_rfl

section
variable {H : Type} {enc : TypeId × Value → H} {W : World}

/-- One, told by its cells. -/
def StaAt (W : World) (cs : List Value) (t : Sta) : Prop := StaOk W t ∧ cs[0]? = some (.int .i64 t.a) ∧ cs[1]? = some (.int .i64 t.b)

set_option maxRecDepth 100000 in
theorem open_Sta1 {n : Nat} {cs : List Value} {x : DataW H × List MemPlace} (h : DataW.trod enc Try.prog W 0 (fun _ => true) true n 61 cs = some x) (hb : Fits Try.prog 61 x.1) : ∃ t : Sta, StaAt W cs t := by
  obtain ⟨xs, q, _, rfl, hl, hxl, hf⟩ := DataW.trod_struct Try.underlying61 h
  have hxm : xs.length = 2 := hxl
  rw [cellsSta] at hl
  match xs, hxm with
  | [y0, y1], _ =>
    have f0 : DataW.trod enc Try.prog W 0 (fun _ => true) true q 3 ((cs.drop 0).take (Try.prog.cellsOf 3)) = some y0 := hf 0 _ rfl
    rw [cellsSta0] at f0
    obtain ⟨v0, e0, _, w0⟩ := DataW.trod_int Try.underlying3 f0
    have f1 : DataW.trod enc Try.prog W 0 (fun _ => true) true q 3 ((cs.drop 1).take (Try.prog.cellsOf 3)) = some y1 := hf 1 _ rfl
    rw [cellsSta0] at f1
    obtain ⟨v1, e1, _, w1⟩ := DataW.trod_int Try.underlying3 f1
    exact ⟨⟨v0, v1⟩, ⟨bounds_i64 w0, bounds_i64 w1⟩, one_cell e0, one_cell e1⟩

set_option maxRecDepth 100000 in
theorem open_Stav {base : Nat} {v : Value} {d : DataW H} {p : List MemPlace} (hok : Value.okWide Try.prog W .any base 61 v) (h : DataW.Trod enc Try.prog W 0 (fun _ => true) true 61 v d p)
    (hb : Fits Try.prog 61 d) : ∃ t : Sta, v = .agg #[.int .i64 t.a, .int .i64 t.b] ∧ StaOk W t := by
  obtain ⟨cs, rfl, hsz⟩ := okWide_struct Try.underlying61 hok
  rw [cellsSta] at hsz
  obtain ⟨fuel, hf⟩ := h
  obtain ⟨t, hok, h0, h1⟩ := open_Sta1 (x := (d, p)) hf hb
  refine ⟨t, ?_, hok⟩
  have e : (Value.agg cs).cells.toList = cs.toList := rfl
  rw [e] at h0 h1
  simp only [Array.getElem?_toList] at h0 h1
  congr 1
  apply Array.ext'
  match hcs : cs.toList, (show cs.toList.length = 2 by simpa using hsz) with
  | [x0, x1], _ =>
    have q : ∀ i, cs[i]? = [x0, x1][i]? := fun i => by rw [← hcs, Array.getElem?_toList]
    rw [q] at h0 h1
    simp at h0 h1
    rw [h0, h1]

theorem open_Stac {fuel : Nat} {v : Value} {x : DataW H × List MemPlace} (hf : DataW.trod enc Try.prog W 0 (fun _ => true) true fuel 44 [v] = some x) (hb : Fits Try.prog 44 x.1) :
    ∃ (a : Option Addr) (n cap : Nat) (T : Nat → Sta), v = .slice a n cap ∧ CameSta W a n T := by
  rcases open_slice Try.underlying44 hf with ⟨hcs, hx⟩ | ⟨a, len0, cap0, m, n, D, Pl, hcs, _, hl, _, hm, hx, hall⟩
  · simp at hcs
    subst hcs
    exact ⟨none, 0, 0, fun _ => zeroSta, rfl, .inl rfl, by omega, fun i hi => by omega⟩
  · simp at hcs
    subst hcs
    have hd := congrArg Prod.fst hx
    simp only at hd
    rw [hd] at hb
    clear hd hx
    have hmc : m = cap0 := by simpa using hm
    have hbl := fits_len hb Try.underlying44
    rw [bytesSta] at hbl
    simp at hbl
    unfold reachBytes at hbl
    rw [cellsSta] at hall
    have each : ∀ i, ∃ t : Sta, i < len0 → ∃ cs', W.cells? 0 (a.add (i * 2)) 2 = some cs' ∧ StaAt W cs' t := fun i => by
      by_cases hi : i < len0
      · obtain ⟨cs', h1, h2⟩ := hall i (by omega)
        have hmem : D i ∈ (List.range len0).map D := List.mem_map.2 ⟨i, List.mem_range.2 hi, rfl⟩
        obtain ⟨t, ht⟩ := open_Sta1 h2 (fits_elem hb Try.underlying44 hmem)
        exact ⟨t, fun _ => ⟨cs', h1, ht⟩⟩
      · exact ⟨zeroSta, fun h => absurd h hi⟩
    obtain ⟨T, hT⟩ : ∃ T : Nat → Sta, ∀ i, i < len0 → ∃ cs', W.cells? 0 (a.add (i * 2)) 2 = some cs' ∧ StaAt W cs' (T i) := ⟨fun i => (each i).choose, fun i hi => (each i).choose_spec hi⟩
    clear each
    have hcell : ∀ i, i < len0 → W.cell? (a.add (i * 2)) = some (.int .i64 (T i).a) ∧ W.cell? (a.add (i * 2 + 1)) = some (.int .i64 (T i).b) := fun i hi => by
      obtain ⟨cs', h1, ht⟩ := hT i hi
      obtain ⟨_, h3, h4⟩ := ht
      obtain ⟨_, _, hc⟩ := World.cells?_some h1
      refine ⟨?_, ?_⟩
      · rw [← h3, ← hc 0 (by omega), add_add, Nat.add_zero]
      · rw [← h4, ← hc 1 (by omega), add_add]
    refine ⟨some a, len0, cap0, T, rfl, ?_, by omega, fun i hi => ?_⟩
    · by_cases h0 : len0 = 0
      · exact .inl h0
      · obtain ⟨bk, off, spot⟩ := a
        have hspot : spot = none := by
          obtain ⟨q, _⟩ := hcell 0 (by omega)
          simpa [Addr.add] using World.cell?_spot q
        subst hspot
        refine .inr ⟨bk, off, rfl, ?_, fun i hi => ?_⟩
        · obtain ⟨q, _⟩ := hcell 0 (by omega)
          exact World.block_lt_of_cell? W _ q
        · obtain ⟨q0, q1⟩ := hcell i hi
          rw [Addr.add_lit] at q0 q1
          exact ⟨q0, by rw [Nat.add_assoc]; exact q1⟩
    · obtain ⟨cs', _, ht⟩ := hT i hi
      exact ht.1

set_option maxRecDepth 100000 in
theorem open_Stas {base : Nat} {v : Value} {d : DataW H} {p : List MemPlace} (hok : Value.okWide Try.prog W .any base 44 v) (h : DataW.Trod enc Try.prog W 0 (fun _ => true) true 44 v d p)
    (hb : Fits Try.prog 44 d) :
    ∃ (a : Option Addr) (n cap : Nat) (T : Nat → Sta), v = .slice a n cap ∧ CameSta W a n T := by
  obtain ⟨a0, len0, cap0, rfl⟩ := okWide_slice Try.underlying44 hok
  obtain ⟨fuel, hf⟩ := h
  exact open_Stac (x := (d, p)) hf hb
end
end Go.Proofs.Ythlkegemkkepgaa
