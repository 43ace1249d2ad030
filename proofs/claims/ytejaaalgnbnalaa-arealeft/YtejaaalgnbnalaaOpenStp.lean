/- Opening a law's argument that is a list of structs: cloisterlaw07.Step. -/
import Derived.Test.YtejaaalgnbnalaaOpenPc
namespace Go.Proofs.Ytejaaalgnbnalaa
open Go.ChangeShapes Go.WideShapes Go.ChangeAt Go.RowKit Go.Joins Go.Deep

/-- One of cloisterlaw07.Step. -/
structure Stp where
  k : Int
  a : Int
  b : Int
  d : Pc
def zeroStp : Stp := ⟨0, 0, 0, ⟨none, 0, []⟩⟩
/-- What is known of one. -/
structure StpOk (w : World) (x : Stp) : Prop where
  k : -9223372036854775808 ≤ x.k ∧ x.k ≤ 9223372036854775807
  a : -9223372036854775808 ≤ x.a ∧ x.a ≤ 9223372036854775807
  b : -9223372036854775808 ≤ x.b ∧ x.b ≤ 9223372036854775807
  d : PcOk w x.d
theorem StpOk.below {w w' : World} {x : Stp} (h : StpOk w x) (hb : Below w.heap.size w w') : StpOk w' x := ⟨h.k, h.a, h.b, h.d.below hb⟩
/-- A row of them. -/
def RowStp (w : World) (a : Option Addr) (n : Nat) (A : Nat → Stp) : Prop :=
  n = 0 ∨ ∃ b o, a = some ⟨b, o, none⟩ ∧ b < w.heap.size ∧ ∀ i, i < n → w.cell? ⟨b, o + i * 4, none⟩ = some (.int .i64 (A i).k) ∧ w.cell? ⟨b, o + i * 4 + 1, none⟩ = some (.int .i64 (A i).a) ∧ w.cell? ⟨b, o + i * 4 + 2, none⟩ = some (.int .i64 (A i).b) ∧ w.cell? ⟨b, o + i * 4 + 3, none⟩ = some (.slice (A i).d.a (A i).d.p.length (A i).d.c)
theorem RowStp.here {w : World} {a : Option Addr} {n : Nat} {A : Nat → Stp} (h : RowStp w a n A) {i : Nat} (hi : i < n) :
    ∃ b o, a = some ⟨b, o, none⟩ ∧ b < w.heap.size ∧ w.cell? ⟨b, o + i * 4, none⟩ = some (.int .i64 (A i).k) ∧ w.cell? ⟨b, o + i * 4 + 1, none⟩ = some (.int .i64 (A i).a) ∧ w.cell? ⟨b, o + i * 4 + 2, none⟩ = some (.int .i64 (A i).b) ∧ w.cell? ⟨b, o + i * 4 + 3, none⟩ = some (.slice (A i).d.a (A i).d.p.length (A i).d.c) := by
  rcases h with h | ⟨b, o, e, hlt, hc⟩
  · omega
  · exact ⟨b, o, e, hlt, hc i hi⟩
theorem RowStp.below {w w' : World} {a : Option Addr} {n : Nat} {A : Nat → Stp} (h : RowStp w a n A) (hb : Below w.heap.size w w') : RowStp w' a n A := by
  rcases h with h | ⟨b, o, e, hlt, hc⟩
  · exact .inl h
  · refine .inr ⟨b, o, e, Nat.lt_of_lt_of_le hlt hb.size, fun i hi => ?_⟩
    obtain ⟨q0, q1, q2, q3⟩ := hc i hi
    exact ⟨by rw [hb.cell (p := ⟨b, o + i * 4, none⟩) hlt]; exact q0, by rw [hb.cell (p := ⟨b, o + i * 4 + 1, none⟩) hlt]; exact q1, by rw [hb.cell (p := ⟨b, o + i * 4 + 2, none⟩) hlt]; exact q2, by rw [hb.cell (p := ⟨b, o + i * 4 + 3, none⟩) hlt]; exact q3⟩
structure CameStp (w : World) (a : Option Addr) (n : Nat) (A : Nat → Stp) : Prop where
  row : RowStp w a n A
  size : n ≤ 2932031007317
  each : ∀ i, i < n → StpOk w (A i)
theorem CameStp.below {w w' : World} {a : Option Addr} {n : Nat} {A : Nat → Stp} (h : CameStp w a n A) (hb : Below w.heap.size w w') : CameStp w' a n A := ⟨h.row.below hb, h.size, fun i hi => (h.each i hi).below hb⟩

theorem cellsStp0 : Try.prog.cellsOf 3 = 1 := by kernel_rfl
theorem cellsStp1 : Try.prog.cellsOf 23 = 1 := by kernel_rfl
theorem cellsStp : Try.prog.cellsOf 47 = 4 := by kernel_rfl
theorem bytesStp : Try.prog.bytesOf 47 = 48 := by kernel_rfl

section
variable {H : Type} {enc : TypeId × Value → H} {W : World}

/-- One, told by its cells. -/
def StpAt (W : World) (cs : List Value) (t : Stp) : Prop := StpOk W t ∧ cs[0]? = some (.int .i64 t.k) ∧ cs[1]? = some (.int .i64 t.a) ∧ cs[2]? = some (.int .i64 t.b) ∧ cs[3]? = some (.slice t.d.a t.d.p.length t.d.c)

set_option maxRecDepth 100000 in
theorem open_Stp1 {n : Nat} {cs : List Value} {x : DataW H × List MemPlace} (h : DataW.trod enc Try.prog W 0 (fun _ => true) true n 47 cs = some x) (hb : Fits Try.prog 47 x.1) : ∃ t : Stp, StpAt W cs t := by
  obtain ⟨xs, q, _, rfl, hl, hxl, hf⟩ := DataW.trod_struct Try.underlying47 h
  have hxm : xs.length = 4 := hxl
  rw [cellsStp] at hl
  match xs, hxm with
  | [y0, y1, y2, y3], _ =>
    have f0 : DataW.trod enc Try.prog W 0 (fun _ => true) true q 3 ((cs.drop 0).take (Try.prog.cellsOf 3)) = some y0 := hf 0 _ rfl
    rw [cellsStp0] at f0
    obtain ⟨v0, e0, _, w0⟩ := DataW.trod_int Try.underlying3 f0
    have f1 : DataW.trod enc Try.prog W 0 (fun _ => true) true q 3 ((cs.drop 1).take (Try.prog.cellsOf 3)) = some y1 := hf 1 _ rfl
    rw [cellsStp0] at f1
    obtain ⟨v1, e1, _, w1⟩ := DataW.trod_int Try.underlying3 f1
    have f2 : DataW.trod enc Try.prog W 0 (fun _ => true) true q 3 ((cs.drop 2).take (Try.prog.cellsOf 3)) = some y2 := hf 2 _ rfl
    rw [cellsStp0] at f2
    obtain ⟨v2, e2, _, w2⟩ := DataW.trod_int Try.underlying3 f2
    have f3 : DataW.trod enc Try.prog W 0 (fun _ => true) true q 23 ((cs.drop 3).take (Try.prog.cellsOf 23)) = some y3 := hf 3 _ rfl
    rw [cellsStp1] at f3
    obtain ⟨u3, e3⟩ := take_one_of (cs := cs) (j := 3) (by omega)
    have p3 : DataW.trod enc Try.prog W 0 (fun _ => true) true q 23 [u3] = some y3 := by rw [← e3]; exact f3
    have g3 : Fits Try.prog 23 y3.1 := fits_field (j := 3) hb Try.underlying47 rfl rfl
    obtain ⟨v3, rfl, k3⟩ := open_p p3 g3
    exact ⟨⟨v0, v1, v2, v3⟩, ⟨bounds_i64 w0, bounds_i64 w1, bounds_i64 w2, k3⟩, one_cell e0, one_cell e1, one_cell e2, one_cell e3⟩

theorem open_Stpv {base : Nat} {v : Value} {d : DataW H} {p : List MemPlace} (hok : Value.okWide Try.prog W .any base 47 v) (h : DataW.Trod enc Try.prog W 0 (fun _ => true) true 47 v d p)
    (hb : Fits Try.prog 47 d) : ∃ t : Stp, v = .agg #[.int .i64 t.k, .int .i64 t.a, .int .i64 t.b, .slice t.d.a t.d.p.length t.d.c] ∧ StpOk W t := by
  obtain ⟨cs, rfl, hsz⟩ := okWide_struct Try.underlying47 hok
  rw [cellsStp] at hsz
  obtain ⟨fuel, hf⟩ := h
  obtain ⟨t, hok, h0, h1, h2, h3⟩ := open_Stp1 (x := (d, p)) hf hb
  refine ⟨t, ?_, hok⟩
  have e : (Value.agg cs).cells.toList = cs.toList := rfl
  rw [e] at h0 h1 h2 h3
  simp only [Array.getElem?_toList] at h0 h1 h2 h3
  congr 1
  apply Array.ext'
  match hcs : cs.toList, (show cs.toList.length = 4 by simpa using hsz) with
  | [x0, x1, x2, x3], _ =>
    have q : ∀ i, cs[i]? = [x0, x1, x2, x3][i]? := fun i => by rw [← hcs, Array.getElem?_toList]
    rw [q] at h0 h1 h2 h3
    simp at h0 h1 h2 h3
    rw [h0, h1, h2, h3]

theorem open_Stpc {fuel : Nat} {v : Value} {x : DataW H × List MemPlace} (hf : DataW.trod enc Try.prog W 0 (fun _ => true) true fuel 22 [v] = some x) (hb : Fits Try.prog 22 x.1) :
    ∃ (a : Option Addr) (n cap : Nat) (T : Nat → Stp), v = .slice a n cap ∧ CameStp W a n T := by
  rcases open_slice Try.underlying22 hf with ⟨hcs, hx⟩ | ⟨a, len0, cap0, m, n, D, Pl, hcs, _, hl, _, hm, hx, hall⟩
  · simp at hcs
    subst hcs
    exact ⟨none, 0, 0, fun _ => zeroStp, rfl, .inl rfl, by omega, fun i hi => by omega⟩
  · simp at hcs
    subst hcs
    have hd := congrArg Prod.fst hx
    simp only at hd
    rw [hd] at hb
    clear hd hx
    have hmc : m = cap0 := by simpa using hm
    have hbl := fits_len hb Try.underlying22
    rw [bytesStp] at hbl
    simp at hbl
    unfold reachBytes at hbl
    rw [cellsStp] at hall
    have each : ∀ i, ∃ t : Stp, i < len0 → ∃ cs', W.cells? 0 (a.add (i * 4)) 4 = some cs' ∧ StpAt W cs' t := fun i => by
      by_cases hi : i < len0
      · obtain ⟨cs', h1, h2⟩ := hall i (by omega)
        have hmem : D i ∈ (List.range len0).map D := List.mem_map.2 ⟨i, List.mem_range.2 hi, rfl⟩
        obtain ⟨t, ht⟩ := open_Stp1 h2 (fits_elem hb Try.underlying22 hmem)
        exact ⟨t, fun _ => ⟨cs', h1, ht⟩⟩
      · exact ⟨zeroStp, fun h => absurd h hi⟩
    obtain ⟨T, hT⟩ : ∃ T : Nat → Stp, ∀ i, i < len0 → ∃ cs', W.cells? 0 (a.add (i * 4)) 4 = some cs' ∧ StpAt W cs' (T i) := ⟨fun i => (each i).choose, fun i hi => (each i).choose_spec hi⟩
    clear each
    have hcell : ∀ i, i < len0 → W.cell? (a.add (i * 4)) = some (.int .i64 (T i).k) ∧ W.cell? (a.add (i * 4 + 1)) = some (.int .i64 (T i).a) ∧ W.cell? (a.add (i * 4 + 2)) = some (.int .i64 (T i).b) ∧ W.cell? (a.add (i * 4 + 3)) = some (.slice (T i).d.a (T i).d.p.length (T i).d.c) := fun i hi => by
      obtain ⟨cs', h1, ht⟩ := hT i hi
      obtain ⟨_, h3, h4, h5, h6⟩ := ht
      obtain ⟨_, _, hc⟩ := World.cells?_some h1
      refine ⟨?_, ?_, ?_, ?_⟩
      · rw [← h3, ← hc 0 (by omega), add_add, Nat.add_zero]
      · rw [← h4, ← hc 1 (by omega), add_add]
      · rw [← h5, ← hc 2 (by omega), add_add]
      · rw [← h6, ← hc 3 (by omega), add_add]
    refine ⟨some a, len0, cap0, T, rfl, ?_, by omega, fun i hi => ?_⟩
    · by_cases h0 : len0 = 0
      · exact .inl h0
      · obtain ⟨bk, off, spot⟩ := a
        have hspot : spot = none := by
          obtain ⟨q, _⟩ := hcell 0 (by omega)
          simpa [Addr.add] using World.cell?_spot q
        subst hspot
        refine .inr ⟨bk, off, rfl, ?_, fun i hi => ?_⟩
        · obtain ⟨q, _⟩ := hcell 0 (by omega)
          exact World.block_lt_of_cell? W _ q
        · obtain ⟨q0, q1, q2, q3⟩ := hcell i hi
          rw [Addr.add_lit] at q0 q1 q2 q3
          exact ⟨q0, by rw [Nat.add_assoc]; exact q1, by rw [Nat.add_assoc]; exact q2, by rw [Nat.add_assoc]; exact q3⟩
    · obtain ⟨cs', _, ht⟩ := hT i hi
      exact ht.1

set_option maxRecDepth 100000 in
theorem open_Stps {base : Nat} {v : Value} {d : DataW H} {p : List MemPlace} (hok : Value.okWide Try.prog W .any base 22 v) (h : DataW.Trod enc Try.prog W 0 (fun _ => true) true 22 v d p)
    (hb : Fits Try.prog 22 d) :
    ∃ (a : Option Addr) (n cap : Nat) (T : Nat → Stp), v = .slice a n cap ∧ CameStp W a n T := by
  obtain ⟨a0, len0, cap0, rfl⟩ := okWide_slice Try.underlying22 hok
  obtain ⟨fuel, hf⟩ := h
  exact open_Stpc (x := (d, p)) hf hb
end
end Go.Proofs.Ytejaaalgnbnalaa
