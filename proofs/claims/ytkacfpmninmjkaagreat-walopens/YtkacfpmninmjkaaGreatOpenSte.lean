/- Opening a law's argument that is a list of structs: cloisterlaw11.Step. -/
import Derived.Test.YtkacfpmninmjkaaGreatOpenPc
import Derived.Test.YtkacfpmninmjkaaGreatOpenEnt
import Derived.Test.YtkacfpmninmjkaaGreatOpenFte
namespace Go.Proofs.YtkacfpmninmjkaaGreat
open Go.ChangeShapes Go.WideShapes Go.ChangeAt Go.RowKit Go.Joins Go.Deep

/-- One of cloisterlaw11.Step. -/
structure Ste where
  k : Int
  i : Int
  a : Int
  esa : Option Addr
  esn : Nat
  esc : Nat
  es : Nat → Ent
  p : Pc
  fa : Option Addr
  fn : Nat
  fc : Nat
  f : Nat → Fte
def zeroSte : Ste := ⟨0, 0, 0, none, 0, 0, fun _ => zeroEnt, ⟨none, 0, []⟩, none, 0, 0, fun _ => zeroFte⟩
/-- What is known of one. -/
structure SteOk (w : World) (x : Ste) : Prop where
  k : -9223372036854775808 ≤ x.k ∧ x.k ≤ 9223372036854775807
  i : -9223372036854775808 ≤ x.i ∧ x.i ≤ 9223372036854775807
  a : -9223372036854775808 ≤ x.a ∧ x.a ≤ 9223372036854775807
  es : CameEnt w x.esa x.esn x.es
  p : PcOk w x.p
  f : CameFte w x.fa x.fn x.f
theorem SteOk.below {w w' : World} {x : Ste} (h : SteOk w x) (hb : Below w.heap.size w w') : SteOk w' x := ⟨h.k, h.i, h.a, h.es.below hb, h.p.below hb, h.f.below hb⟩
/-- A row of them. -/
def RowSte (w : World) (a : Option Addr) (n : Nat) (A : Nat → Ste) : Prop :=
  n = 0 ∨ ∃ b o, a = some ⟨b, o, none⟩ ∧ b < w.heap.size ∧ ∀ i, i < n → w.cell? ⟨b, o + i * 6, none⟩ = some (.int .i64 (A i).k) ∧ w.cell? ⟨b, o + i * 6 + 1, none⟩ = some (.int .i64 (A i).i) ∧ w.cell? ⟨b, o + i * 6 + 2, none⟩ = some (.int .i64 (A i).a) ∧ w.cell? ⟨b, o + i * 6 + 3, none⟩ = some (.slice (A i).esa (A i).esn (A i).esc) ∧ w.cell? ⟨b, o + i * 6 + 4, none⟩ = some (.slice (A i).p.a (A i).p.p.length (A i).p.c) ∧ w.cell? ⟨b, o + i * 6 + 5, none⟩ = some (.slice (A i).fa (A i).fn (A i).fc)
theorem RowSte.here {w : World} {a : Option Addr} {n : Nat} {A : Nat → Ste} (h : RowSte w a n A) {i : Nat} (hi : i < n) :
    ∃ b o, a = some ⟨b, o, none⟩ ∧ b < w.heap.size ∧ w.cell? ⟨b, o + i * 6, none⟩ = some (.int .i64 (A i).k) ∧ w.cell? ⟨b, o + i * 6 + 1, none⟩ = some (.int .i64 (A i).i) ∧ w.cell? ⟨b, o + i * 6 + 2, none⟩ = some (.int .i64 (A i).a) ∧ w.cell? ⟨b, o + i * 6 + 3, none⟩ = some (.slice (A i).esa (A i).esn (A i).esc) ∧ w.cell? ⟨b, o + i * 6 + 4, none⟩ = some (.slice (A i).p.a (A i).p.p.length (A i).p.c) ∧ w.cell? ⟨b, o + i * 6 + 5, none⟩ = some (.slice (A i).fa (A i).fn (A i).fc) := by
  rcases h with h | ⟨b, o, e, hlt, hc⟩
  · omega
  · exact ⟨b, o, e, hlt, hc i hi⟩
theorem RowSte.below {w w' : World} {a : Option Addr} {n : Nat} {A : Nat → Ste} (h : RowSte w a n A) (hb : Below w.heap.size w w') : RowSte w' a n A := by
  rcases h with h | ⟨b, o, e, hlt, hc⟩
  · exact .inl h
  · refine .inr ⟨b, o, e, Nat.lt_of_lt_of_le hlt hb.size, fun i hi => ?_⟩
    obtain ⟨q0, q1, q2, q3, q4, q5⟩ := hc i hi
    exact ⟨by rw [hb.cell (p := ⟨b, o + i * 6, none⟩) hlt]; exact q0, by rw [hb.cell (p := ⟨b, o + i * 6 + 1, none⟩) hlt]; exact q1, by rw [hb.cell (p := ⟨b, o + i * 6 + 2, none⟩) hlt]; exact q2, by rw [hb.cell (p := ⟨b, o + i * 6 + 3, none⟩) hlt]; exact q3, by rw [hb.cell (p := ⟨b, o + i * 6 + 4, none⟩) hlt]; exact q4, by rw [hb.cell (p := ⟨b, o + i * 6 + 5, none⟩) hlt]; exact q5⟩
structure CameSte (w : World) (a : Option Addr) (n : Nat) (A : Nat → Ste) : Prop where
  row : RowSte w a n A
  size : n ≤ 1466015503658
  each : ∀ i, i < n → SteOk w (A i)
theorem CameSte.below {w w' : World} {a : Option Addr} {n : Nat} {A : Nat → Ste} (h : CameSte w a n A) (hb : Below w.heap.size w w') : CameSte w' a n A := ⟨h.row.below hb, h.size, fun i hi => (h.each i hi).below hb⟩

theorem cellsSte0 : Tryz.prog.cellsOf 3 = 1 := by kernel_rfl
theorem cellsSte1 : Tryz.prog.cellsOf 38 = 1 := by kernel_rfl
theorem cellsSte2 : Tryz.prog.cellsOf 39 = 1 := by kernel_rfl
theorem cellsSte3 : Tryz.prog.cellsOf 40 = 1 := by kernel_rfl
theorem cellsSte : Tryz.prog.cellsOf 42 = 6 := by kernel_rfl
theorem bytesSte : Tryz.prog.bytesOf 42 = 96 := by kernel_rfl

section
variable {H : Type} {enc : TypeId × Value → H} {W : World}

/-- One, told by its cells. -/
def SteAt (W : World) (cs : List Value) (t : Ste) : Prop := SteOk W t ∧ cs[0]? = some (.int .i64 t.k) ∧ cs[1]? = some (.int .i64 t.i) ∧ cs[2]? = some (.int .i64 t.a) ∧ cs[3]? = some (.slice t.esa t.esn t.esc) ∧ cs[4]? = some (.slice t.p.a t.p.p.length t.p.c) ∧ cs[5]? = some (.slice t.fa t.fn t.fc)

set_option maxRecDepth 100000 in
theorem open_Ste1 {n : Nat} {cs : List Value} {x : DataW H × List MemPlace} (h : DataW.trod enc Tryz.prog W 0 (fun _ => true) true n 42 cs = some x) (hb : Fits Tryz.prog 42 x.1) : ∃ t : Ste, SteAt W cs t := by
  obtain ⟨xs, q, _, rfl, hl, hxl, hf⟩ := DataW.trod_struct Tryz.underlying42 h
  have hxm : xs.length = 6 := hxl
  rw [cellsSte] at hl
  match xs, hxm with
  | [y0, y1, y2, y3, y4, y5], _ =>
    have f0 : DataW.trod enc Tryz.prog W 0 (fun _ => true) true q 3 ((cs.drop 0).take (Tryz.prog.cellsOf 3)) = some y0 := hf 0 _ rfl
    rw [cellsSte0] at f0
    obtain ⟨v0, e0, _, w0⟩ := DataW.trod_int Tryz.underlying3 f0
    have f1 : DataW.trod enc Tryz.prog W 0 (fun _ => true) true q 3 ((cs.drop 1).take (Tryz.prog.cellsOf 3)) = some y1 := hf 1 _ rfl
    rw [cellsSte0] at f1
    obtain ⟨v1, e1, _, w1⟩ := DataW.trod_int Tryz.underlying3 f1
    have f2 : DataW.trod enc Tryz.prog W 0 (fun _ => true) true q 3 ((cs.drop 2).take (Tryz.prog.cellsOf 3)) = some y2 := hf 2 _ rfl
    rw [cellsSte0] at f2
    obtain ⟨v2, e2, _, w2⟩ := DataW.trod_int Tryz.underlying3 f2
    have f3 : DataW.trod enc Tryz.prog W 0 (fun _ => true) true q 38 ((cs.drop 3).take (Tryz.prog.cellsOf 38)) = some y3 := hf 3 _ rfl
    rw [cellsSte1] at f3
    obtain ⟨u3, e3⟩ := take_one_of (cs := cs) (j := 3) (by omega)
    have p3 : DataW.trod enc Tryz.prog W 0 (fun _ => true) true q 38 [u3] = some y3 := by rw [← e3]; exact f3
    have g3 : Fits Tryz.prog 38 y3.1 := fits_field (j := 3) hb Tryz.underlying42 rfl rfl
    obtain ⟨a3, n3, c3, v3, rfl, k3, _⟩ := open_Entc p3 g3
    have f4 : DataW.trod enc Tryz.prog W 0 (fun _ => true) true q 39 ((cs.drop 4).take (Tryz.prog.cellsOf 39)) = some y4 := hf 4 _ rfl
    rw [cellsSte2] at f4
    obtain ⟨u4, e4⟩ := take_one_of (cs := cs) (j := 4) (by omega)
    have p4 : DataW.trod enc Tryz.prog W 0 (fun _ => true) true q 39 [u4] = some y4 := by rw [← e4]; exact f4
    have g4 : Fits Tryz.prog 39 y4.1 := fits_field (j := 4) hb Tryz.underlying42 rfl rfl
    obtain ⟨v4, rfl, k4⟩ := open_p p4 g4
    have f5 : DataW.trod enc Tryz.prog W 0 (fun _ => true) true q 40 ((cs.drop 5).take (Tryz.prog.cellsOf 40)) = some y5 := hf 5 _ rfl
    rw [cellsSte3] at f5
    obtain ⟨u5, e5⟩ := take_one_of (cs := cs) (j := 5) (by omega)
    have p5 : DataW.trod enc Tryz.prog W 0 (fun _ => true) true q 40 [u5] = some y5 := by rw [← e5]; exact f5
    have g5 : Fits Tryz.prog 40 y5.1 := fits_field (j := 5) hb Tryz.underlying42 rfl rfl
    obtain ⟨a5, n5, c5, v5, rfl, k5⟩ := open_Ftec p5 g5
    exact ⟨⟨v0, v1, v2, a3, n3, c3, v3, v4, a5, n5, c5, v5⟩, ⟨bounds_i64 w0, bounds_i64 w1, bounds_i64 w2, k3, k4, k5⟩, one_cell e0, one_cell e1, one_cell e2, one_cell e3, one_cell e4, one_cell e5⟩

set_option maxRecDepth 100000 in
theorem open_Stev {base : Nat} {v : Value} {d : DataW H} {p : List MemPlace} (hok : Value.okWide Tryz.prog W .any base 42 v) (h : DataW.Trod enc Tryz.prog W 0 (fun _ => true) true 42 v d p)
    (hb : Fits Tryz.prog 42 d) : ∃ t : Ste, v = .agg #[.int .i64 t.k, .int .i64 t.i, .int .i64 t.a, .slice t.esa t.esn t.esc, .slice t.p.a t.p.p.length t.p.c, .slice t.fa t.fn t.fc] ∧ SteOk W t := by
  obtain ⟨cs, rfl, hsz⟩ := okWide_struct Tryz.underlying42 hok
  rw [cellsSte] at hsz
  obtain ⟨fuel, hf⟩ := h
  obtain ⟨t, hok, h0, h1, h2, h3, h4, h5⟩ := open_Ste1 (x := (d, p)) hf hb
  refine ⟨t, ?_, hok⟩
  have e : (Value.agg cs).cells.toList = cs.toList := rfl
  rw [e] at h0 h1 h2 h3 h4 h5
  simp only [Array.getElem?_toList] at h0 h1 h2 h3 h4 h5
  congr 1
  apply Array.ext'
  match hcs : cs.toList, (show cs.toList.length = 6 by simpa using hsz) with
  | [x0, x1, x2, x3, x4, x5], _ =>
    have q : ∀ i, cs[i]? = [x0, x1, x2, x3, x4, x5][i]? := fun i => by rw [← hcs, Array.getElem?_toList]
    rw [q] at h0 h1 h2 h3 h4 h5
    simp at h0 h1 h2 h3 h4 h5
    rw [h0, h1, h2, h3, h4, h5]

theorem open_Stec {fuel : Nat} {v : Value} {x : DataW H × List MemPlace} (hf : DataW.trod enc Tryz.prog W 0 (fun _ => true) true fuel 23 [v] = some x) (hb : Fits Tryz.prog 23 x.1) :
    ∃ (a : Option Addr) (n cap : Nat) (T : Nat → Ste), v = .slice a n cap ∧ CameSte W a n T := by
  rcases open_slice Tryz.underlying23 hf with ⟨hcs, hx⟩ | ⟨a, len0, cap0, m, n, D, Pl, hcs, _, hl, _, hm, hx, hall⟩
  · simp at hcs
    subst hcs
    exact ⟨none, 0, 0, fun _ => zeroSte, rfl, .inl rfl, by omega, fun i hi => by omega⟩
  · simp at hcs
    subst hcs
    have hd := congrArg Prod.fst hx
    simp only at hd
    rw [hd] at hb
    clear hd hx
    have hmc : m = cap0 := by simpa using hm
    have hbl := fits_len hb Tryz.underlying23
    rw [bytesSte] at hbl
    simp at hbl
    unfold reachBytes at hbl
    rw [cellsSte] at hall
    have each : ∀ i, ∃ t : Ste, i < len0 → ∃ cs', W.cells? 0 (a.add (i * 6)) 6 = some cs' ∧ SteAt W cs' t := fun i => by
      by_cases hi : i < len0
      · obtain ⟨cs', h1, h2⟩ := hall i (by omega)
        have hmem : D i ∈ (List.range len0).map D := List.mem_map.2 ⟨i, List.mem_range.2 hi, rfl⟩
        obtain ⟨t, ht⟩ := open_Ste1 h2 (fits_elem hb Tryz.underlying23 hmem)
        exact ⟨t, fun _ => ⟨cs', h1, ht⟩⟩
      · exact ⟨zeroSte, fun h => absurd h hi⟩
    obtain ⟨T, hT⟩ : ∃ T : Nat → Ste, ∀ i, i < len0 → ∃ cs', W.cells? 0 (a.add (i * 6)) 6 = some cs' ∧ SteAt W cs' (T i) := ⟨fun i => (each i).choose, fun i hi => (each i).choose_spec hi⟩
    clear each
    have hcell : ∀ i, i < len0 → W.cell? (a.add (i * 6)) = some (.int .i64 (T i).k) ∧ W.cell? (a.add (i * 6 + 1)) = some (.int .i64 (T i).i) ∧ W.cell? (a.add (i * 6 + 2)) = some (.int .i64 (T i).a) ∧ W.cell? (a.add (i * 6 + 3)) = some (.slice (T i).esa (T i).esn (T i).esc) ∧ W.cell? (a.add (i * 6 + 4)) = some (.slice (T i).p.a (T i).p.p.length (T i).p.c) ∧ W.cell? (a.add (i * 6 + 5)) = some (.slice (T i).fa (T i).fn (T i).fc) := fun i hi => by
      obtain ⟨cs', h1, ht⟩ := hT i hi
      obtain ⟨_, h3, h4, h5, h6, h7, h8⟩ := ht
      obtain ⟨_, _, hc⟩ := World.cells?_some h1
      refine ⟨?_, ?_, ?_, ?_, ?_, ?_⟩
      · rw [← h3, ← hc 0 (by omega), add_add, Nat.add_zero]
      · rw [← h4, ← hc 1 (by omega), add_add]
      · rw [← h5, ← hc 2 (by omega), add_add]
      · rw [← h6, ← hc 3 (by omega), add_add]
      · rw [← h7, ← hc 4 (by omega), add_add]
      · rw [← h8, ← hc 5 (by omega), add_add]
    refine ⟨some a, len0, cap0, T, rfl, ?_, by omega, fun i hi => ?_⟩
    · by_cases h0 : len0 = 0
      · exact .inl h0
      · obtain ⟨bk, off, spot⟩ := a
        have hspot : spot = none := by
          obtain ⟨q, _⟩ := hcell 0 (by omega)
          simpa [Addr.add] using World.cell?_spot q
        subst hspot
        refine .inr ⟨bk, off, rfl, ?_, fun i hi => ?_⟩
        · obtain ⟨q, _⟩ := hcell 0 (by omega)
          exact World.block_lt_of_cell? W _ q
        · obtain ⟨q0, q1, q2, q3, q4, q5⟩ := hcell i hi
          rw [Addr.add_lit] at q0 q1 q2 q3 q4 q5
          exact ⟨q0, by rw [Nat.add_assoc]; exact q1, by rw [Nat.add_assoc]; exact q2, by rw [Nat.add_assoc]; exact q3, by rw [Nat.add_assoc]; exact q4, by rw [Nat.add_assoc]; exact q5⟩
    · obtain ⟨cs', _, ht⟩ := hT i hi
      exact ht.1

set_option maxRecDepth 100000 in
theorem open_Stes {base : Nat} {v : Value} {d : DataW H} {p : List MemPlace} (hok : Value.okWide Tryz.prog W .any base 23 v) (h : DataW.Trod enc Tryz.prog W 0 (fun _ => true) true 23 v d p)
    (hb : Fits Tryz.prog 23 d) :
    ∃ (a : Option Addr) (n cap : Nat) (T : Nat → Ste), v = .slice a n cap ∧ CameSte W a n T := by
  obtain ⟨a0, len0, cap0, rfl⟩ := okWide_slice Tryz.underlying23 hok
  obtain ⟨fuel, hf⟩ := h
  exact open_Stec (x := (d, p)) hf hb
end
end Go.Proofs.YtkacfpmninmjkaaGreat
