/- Opening a law's argument that is a list of structs: api.Fate. -/
import Derived.Test.YtkacfpmninmjkaaGreatOpenPc
namespace Go.Proofs.YtkacfpmninmjkaaGreat
open Go.ChangeShapes Go.WideShapes Go.ChangeAt Go.RowKit Go.Joins Go.Deep

/-- One of api.Fate. -/
structure Fte where
  d : Int
  k : Int
  t : Nat
def zeroFte : Fte := ⟨0, 0, 0⟩
/-- What is known of one. -/
structure FteOk (w : World) (x : Fte) : Prop where
  d : -9223372036854775808 ≤ x.d ∧ x.d ≤ 9223372036854775807
  k : -9223372036854775808 ≤ x.k ∧ x.k ≤ 9223372036854775807
  t : x.t < 256
theorem FteOk.below {w w' : World} {x : Fte} (h : FteOk w x) (_hb : Below w.heap.size w w') : FteOk w' x := ⟨h.d, h.k, h.t⟩
/-- A row of them. -/
def RowFte (w : World) (a : Option Addr) (n : Nat) (A : Nat → Fte) : Prop :=
  n = 0 ∨ ∃ b o, a = some ⟨b, o, none⟩ ∧ b < w.heap.size ∧ ∀ i, i < n → w.cell? ⟨b, o + i * 3, none⟩ = some (.int .i64 (A i).d) ∧ w.cell? ⟨b, o + i * 3 + 1, none⟩ = some (.int .i64 (A i).k) ∧ w.cell? ⟨b, o + i * 3 + 2, none⟩ = some (.int .u8 ((A i).t : Int))
theorem RowFte.here {w : World} {a : Option Addr} {n : Nat} {A : Nat → Fte} (h : RowFte w a n A) {i : Nat} (hi : i < n) :
    ∃ b o, a = some ⟨b, o, none⟩ ∧ b < w.heap.size ∧ w.cell? ⟨b, o + i * 3, none⟩ = some (.int .i64 (A i).d) ∧ w.cell? ⟨b, o + i * 3 + 1, none⟩ = some (.int .i64 (A i).k) ∧ w.cell? ⟨b, o + i * 3 + 2, none⟩ = some (.int .u8 ((A i).t : Int)) := by
  rcases h with h | ⟨b, o, e, hlt, hc⟩
  · omega
  · exact ⟨b, o, e, hlt, hc i hi⟩
theorem RowFte.below {w w' : World} {a : Option Addr} {n : Nat} {A : Nat → Fte} (h : RowFte w a n A) (hb : Below w.heap.size w w') : RowFte w' a n A := by
  rcases h with h | ⟨b, o, e, hlt, hc⟩
  · exact .inl h
  · refine .inr ⟨b, o, e, Nat.lt_of_lt_of_le hlt hb.size, fun i hi => ?_⟩
    obtain ⟨q0, q1, q2⟩ := hc i hi
    exact ⟨by rw [hb.cell (p := ⟨b, o + i * 3, none⟩) hlt]; exact q0, by rw [hb.cell (p := ⟨b, o + i * 3 + 1, none⟩) hlt]; exact q1, by rw [hb.cell (p := ⟨b, o + i * 3 + 2, none⟩) hlt]; exact q2⟩
structure CameFte (w : World) (a : Option Addr) (n : Nat) (A : Nat → Fte) : Prop where
  row : RowFte w a n A
  size : n ≤ 5864062014634
  each : ∀ i, i < n → FteOk w (A i)
theorem CameFte.below {w w' : World} {a : Option Addr} {n : Nat} {A : Nat → Fte} (h : CameFte w a n A) (hb : Below w.heap.size w w') : CameFte w' a n A := ⟨h.row.below hb, h.size, fun i hi => (h.each i hi).below hb⟩

theorem cellsFte0 : Tryz.prog.cellsOf 3 = 1 := by kernel_rfl
theorem cellsFte1 : Tryz.prog.cellsOf 5 = 1 := by kernel_rfl
theorem cellsFte : Tryz.prog.cellsOf 52 = 3 := by kernel_rfl
theorem bytesFte : Tryz.prog.bytesOf 52 = 24 := by kernel_rfl

section
variable {H : Type} {enc : TypeId × Value → H} {W : World}

/-- One, told by its cells. -/
def FteAt (W : World) (cs : List Value) (t : Fte) : Prop := FteOk W t ∧ cs[0]? = some (.int .i64 t.d) ∧ cs[1]? = some (.int .i64 t.k) ∧ cs[2]? = some (.int .u8 (t.t : Int))

set_option maxRecDepth 100000 in
theorem open_Fte1 {n : Nat} {cs : List Value} {x : DataW H × List MemPlace} (h : DataW.trod enc Tryz.prog W 0 (fun _ => true) true n 52 cs = some x) (hb : Fits Tryz.prog 52 x.1) : ∃ t : Fte, FteAt W cs t := by
  obtain ⟨xs, q, _, rfl, hl, hxl, hf⟩ := DataW.trod_struct Tryz.underlying52 h
  have hxm : xs.length = 3 := hxl
  rw [cellsFte] at hl
  match xs, hxm with
  | [y0, y1, y2], _ =>
    have f0 : DataW.trod enc Tryz.prog W 0 (fun _ => true) true q 3 ((cs.drop 0).take (Tryz.prog.cellsOf 3)) = some y0 := hf 0 _ rfl
    rw [cellsFte0] at f0
    obtain ⟨v0, e0, _, w0⟩ := DataW.trod_int Tryz.underlying3 f0
    have f1 : DataW.trod enc Tryz.prog W 0 (fun _ => true) true q 3 ((cs.drop 1).take (Tryz.prog.cellsOf 3)) = some y1 := hf 1 _ rfl
    rw [cellsFte0] at f1
    obtain ⟨v1, e1, _, w1⟩ := DataW.trod_int Tryz.underlying3 f1
    have f2 : DataW.trod enc Tryz.prog W 0 (fun _ => true) true q 5 ((cs.drop 2).take (Tryz.prog.cellsOf 5)) = some y2 := hf 2 _ rfl
    rw [cellsFte1] at f2
    obtain ⟨i2, e2, _, w2⟩ := DataW.trod_int Tryz.underlying5 f2
    obtain ⟨v2, rfl⟩ : ∃ y : Nat, i2 = (y : Int) := ⟨i2.toNat, by have := bounds_u8' w2; omega⟩
    exact ⟨⟨v0, v1, v2⟩, ⟨bounds_i64 w0, bounds_i64 w1, (show v2 < 256 by have := bounds_u8' w2; omega)⟩, one_cell e0, one_cell e1, one_cell e2⟩

set_option maxRecDepth 100000 in
theorem open_Ftev {base : Nat} {v : Value} {d : DataW H} {p : List MemPlace} (hok : Value.okWide Tryz.prog W .any base 52 v) (h : DataW.Trod enc Tryz.prog W 0 (fun _ => true) true 52 v d p)
    (hb : Fits Tryz.prog 52 d) : ∃ t : Fte, v = .agg #[.int .i64 t.d, .int .i64 t.k, .int .u8 (t.t : Int)] ∧ FteOk W t := by
  obtain ⟨cs, rfl, hsz⟩ := okWide_struct Tryz.underlying52 hok
  rw [cellsFte] at hsz
  obtain ⟨fuel, hf⟩ := h
  obtain ⟨t, hok, h0, h1, h2⟩ := open_Fte1 (x := (d, p)) hf hb
  refine ⟨t, ?_, hok⟩
  have e : (Value.agg cs).cells.toList = cs.toList := rfl
  rw [e] at h0 h1 h2
  simp only [Array.getElem?_toList] at h0 h1 h2
  congr 1
  apply Array.ext'
  match hcs : cs.toList, (show cs.toList.length = 3 by simpa using hsz) with
  | [x0, x1, x2], _ =>
    have q : ∀ i, cs[i]? = [x0, x1, x2][i]? := fun i => by rw [← hcs, Array.getElem?_toList]
    rw [q] at h0 h1 h2
    simp at h0 h1 h2
    rw [h0, h1, h2]

theorem open_Ftec {fuel : Nat} {v : Value} {x : DataW H × List MemPlace} (hf : DataW.trod enc Tryz.prog W 0 (fun _ => true) true fuel 40 [v] = some x) (hb : Fits Tryz.prog 40 x.1) :
    ∃ (a : Option Addr) (n cap : Nat) (T : Nat → Fte), v = .slice a n cap ∧ CameFte W a n T := by
  rcases open_slice Tryz.underlying40 hf with ⟨hcs, hx⟩ | ⟨a, len0, cap0, m, n, D, Pl, hcs, _, hl, _, hm, hx, hall⟩
  · simp at hcs
    subst hcs
    exact ⟨none, 0, 0, fun _ => zeroFte, rfl, .inl rfl, by omega, fun i hi => by omega⟩
  · simp at hcs
    subst hcs
    have hd := congrArg Prod.fst hx
    simp only at hd
    rw [hd] at hb
    clear hd hx
    have hmc : m = cap0 := by simpa using hm
    have hbl := fits_len hb Tryz.underlying40
    rw [bytesFte] at hbl
    simp at hbl
    unfold reachBytes at hbl
    rw [cellsFte] at hall
    have each : ∀ i, ∃ t : Fte, i < len0 → ∃ cs', W.cells? 0 (a.add (i * 3)) 3 = some cs' ∧ FteAt W cs' t := fun i => by
      by_cases hi : i < len0
      · obtain ⟨cs', h1, h2⟩ := hall i (by omega)
        have hmem : D i ∈ (List.range len0).map D := List.mem_map.2 ⟨i, List.mem_range.2 hi, rfl⟩
        obtain ⟨t, ht⟩ := open_Fte1 h2 (fits_elem hb Tryz.underlying40 hmem)
        exact ⟨t, fun _ => ⟨cs', h1, ht⟩⟩
      · exact ⟨zeroFte, fun h => absurd h hi⟩
    obtain ⟨T, hT⟩ : ∃ T : Nat → Fte, ∀ i, i < len0 → ∃ cs', W.cells? 0 (a.add (i * 3)) 3 = some cs' ∧ FteAt W cs' (T i) := ⟨fun i => (each i).choose, fun i hi => (each i).choose_spec hi⟩
    clear each
    have hcell : ∀ i, i < len0 → W.cell? (a.add (i * 3)) = some (.int .i64 (T i).d) ∧ W.cell? (a.add (i * 3 + 1)) = some (.int .i64 (T i).k) ∧ W.cell? (a.add (i * 3 + 2)) = some (.int .u8 ((T i).t : Int)) := fun i hi => by
      obtain ⟨cs', h1, ht⟩ := hT i hi
      obtain ⟨_, h3, h4, h5⟩ := ht
      obtain ⟨_, _, hc⟩ := World.cells?_some h1
      refine ⟨?_, ?_, ?_⟩
      · rw [← h3, ← hc 0 (by omega), add_add, Nat.add_zero]
      · rw [← h4, ← hc 1 (by omega), add_add]
      · rw [← h5, ← hc 2 (by omega), add_add]
    refine ⟨some a, len0, cap0, T, rfl, ?_, by omega, fun i hi => ?_⟩
    · by_cases h0 : len0 = 0
      · exact .inl h0
      · obtain ⟨bk, off, spot⟩ := a
        have hspot : spot = none := by
          obtain ⟨q, _⟩ := hcell 0 (by omega)
          simpa [Addr.add] using World.cell?_spot q
        subst hspot
        refine .inr ⟨bk, off, rfl, ?_, fun i hi => ?_⟩
        · obtain ⟨q, _⟩ := hcell 0 (by omega)
          exact World.block_lt_of_cell? W _ q
        · obtain ⟨q0, q1, q2⟩ := hcell i hi
          rw [Addr.add_lit] at q0 q1 q2
          exact ⟨q0, by rw [Nat.add_assoc]; exact q1, by rw [Nat.add_assoc]; exact q2⟩
    · obtain ⟨cs', _, ht⟩ := hT i hi
      exact ht.1

set_option maxRecDepth 100000 in
theorem open_Ftes {base : Nat} {v : Value} {d : DataW H} {p : List MemPlace} (hok : Value.okWide Tryz.prog W .any base 40 v) (h : DataW.Trod enc Tryz.prog W 0 (fun _ => true) true 40 v d p)
    (hb : Fits Tryz.prog 40 d) :
    ∃ (a : Option Addr) (n cap : Nat) (T : Nat → Fte), v = .slice a n cap ∧ CameFte W a n T := by
  obtain ⟨a0, len0, cap0, rfl⟩ := okWide_slice Tryz.underlying40 hok
  obtain ⟨fuel, hf⟩ := h
  exact open_Ftec (x := (d, p)) hf hb
end
end Go.Proofs.YtkacfpmninmjkaaGreat
