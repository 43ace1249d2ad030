/- Opening a law's argument that is a list of structs: api.Pair. -/
import Derived.Test.YtbafjkanbbcbgaaOpenPc
namespace Go.Proofs.Ytbafjkanbbcbgaa
open Go.ChangeShapes Go.WideShapes Go.ChangeAt Go.RowKit Go.Joins Go.Deep

/-- One of api.Pair. -/
structure Pq where
  k : ByteArray
  v : Pc
def zeroPq : Pq := ⟨.empty, ⟨none, 0, []⟩⟩
/-- What is known of one. -/
structure PqOk (w : World) (x : Pq) : Prop where
  k : x.k.size ≤ 140737488351232
  v : PcOk w x.v
theorem PqOk.below {w w' : World} {x : Pq} (h : PqOk w x) (hb : Below w.heap.size w w') : PqOk w' x := ⟨h.k, h.v.below hb⟩
/-- A row of them. -/
def RowPq (w : World) (a : Option Addr) (n : Nat) (A : Nat → Pq) : Prop :=
  n = 0 ∨ ∃ b o, a = some ⟨b, o, none⟩ ∧ b < w.heap.size ∧ ∀ i, i < n → w.cell? ⟨b, o + i * 2, none⟩ = some (.string (A i).k) ∧ w.cell? ⟨b, o + i * 2 + 1, none⟩ = some (.slice (A i).v.a (A i).v.p.length (A i).v.c)
theorem RowPq.here {w : World} {a : Option Addr} {n : Nat} {A : Nat → Pq} (h : RowPq w a n A) {i : Nat} (hi : i < n) :
    ∃ b o, a = some ⟨b, o, none⟩ ∧ b < w.heap.size ∧ w.cell? ⟨b, o + i * 2, none⟩ = some (.string (A i).k) ∧ w.cell? ⟨b, o + i * 2 + 1, none⟩ = some (.slice (A i).v.a (A i).v.p.length (A i).v.c) := by
  rcases h with h | ⟨b, o, e, hlt, hc⟩
  · omega
  · exact ⟨b, o, e, hlt, hc i hi⟩
theorem RowPq.below {w w' : World} {a : Option Addr} {n : Nat} {A : Nat → Pq} (h : RowPq w a n A) (hb : Below w.heap.size w w') : RowPq w' a n A := by
  rcases h with h | ⟨b, o, e, hlt, hc⟩
  · exact .inl h
  · refine .inr ⟨b, o, e, Nat.lt_of_lt_of_le hlt hb.size, fun i hi => ?_⟩
    obtain ⟨q0, q1⟩ := hc i hi
    exact ⟨by rw [hb.cell (p := ⟨b, o + i * 2, none⟩) hlt]; exact q0, by rw [hb.cell (p := ⟨b, o + i * 2 + 1, none⟩) hlt]; exact q1⟩
structure CamePq (w : World) (a : Option Addr) (n : Nat) (A : Nat → Pq) : Prop where
  row : RowPq w a n A
  size : n ≤ 3518437208780
  each : ∀ i, i < n → PqOk w (A i)
theorem CamePq.below {w w' : World} {a : Option Addr} {n : Nat} {A : Nat → Pq} (h : CamePq w a n A) (hb : Below w.heap.size w w') : CamePq w' a n A := ⟨h.row.below hb, h.size, fun i hi => (h.each i hi).below hb⟩

theorem cellsPq0 : Try.prog.cellsOf 9 = 1 := by kernel_rfl
theorem cellsPq1 : Try.prog.cellsOf 34 = 1 := by kernel_rfl
theorem cellsPq : Try.prog.cellsOf 60 = 2 := by kernel_rfl
theorem bytesPq : Try.prog.bytesOf 60 = 40 := by kernel_rfl

section
variable {H : Type} {enc : TypeId × Value → H} {W : World}

/-- One, told by its cells. -/
def PqAt (W : World) (cs : List Value) (t : Pq) : Prop := PqOk W t ∧ cs[0]? = some (.string t.k) ∧ cs[1]? = some (.slice t.v.a t.v.p.length t.v.c)

set_option maxRecDepth 100000 in
theorem open_Pq1 {n : Nat} {cs : List Value} {x : DataW H × List MemPlace} (h : DataW.trod enc Try.prog W 0 (fun _ => true) true n 60 cs = some x) (hb : Fits Try.prog 60 x.1) : ∃ t : Pq, PqAt W cs t := by
  obtain ⟨xs, q, _, rfl, hl, hxl, hf⟩ := DataW.trod_struct Try.underlying60 h
  have hxm : xs.length = 2 := hxl
  rw [cellsPq] at hl
  match xs, hxm with
  | [y0, y1], _ =>
    have f0 : DataW.trod enc Try.prog W 0 (fun _ => true) true q 9 ((cs.drop 0).take (Try.prog.cellsOf 9)) = some y0 := hf 0 _ rfl
    rw [cellsPq0] at f0
    obtain ⟨v0, e0, z0, _⟩ := DataW.trod_string Try.underlying9 f0
    have g0 : Fits Try.prog 9 y0.1 := fits_field (j := 0) hb Try.underlying60 rfl rfl
    have s0 : v0.size ≤ 140737488351232 := by
      rw [z0] at g0
      have h1 := g0 v0.data.toList.length (by simp [DataW.weights])
      unfold reachBytes at h1
      rw [Array.length_toList] at h1
      exact h1
    have f1 : DataW.trod enc Try.prog W 0 (fun _ => true) true q 34 ((cs.drop 1).take (Try.prog.cellsOf 34)) = some y1 := hf 1 _ rfl
    rw [cellsPq1] at f1
    obtain ⟨u1, e1⟩ := take_one_of (cs := cs) (j := 1) (by omega)
    have p1 : DataW.trod enc Try.prog W 0 (fun _ => true) true q 34 [u1] = some y1 := by rw [← e1]; exact f1
    have g1 : Fits Try.prog 34 y1.1 := fits_field (j := 1) hb Try.underlying60 rfl rfl
    obtain ⟨v1, rfl, k1⟩ := open_p p1 g1
    exact ⟨⟨v0, v1⟩, ⟨s0, k1⟩, one_cell e0, one_cell e1⟩

set_option maxRecDepth 100000 in
theorem open_Pqv {base : Nat} {v : Value} {d : DataW H} {p : List MemPlace} (hok : Value.okWide Try.prog W .any base 60 v) (h : DataW.Trod enc Try.prog W 0 (fun _ => true) true 60 v d p)
    (hb : Fits Try.prog 60 d) : ∃ t : Pq, v = .agg #[.string t.k, .slice t.v.a t.v.p.length t.v.c] ∧ PqOk W t := by
  obtain ⟨cs, rfl, hsz⟩ := okWide_struct Try.underlying60 hok
  rw [cellsPq] at hsz
  obtain ⟨fuel, hf⟩ := h
  obtain ⟨t, hok, h0, h1⟩ := open_Pq1 (x := (d, p)) hf hb
  refine ⟨t, ?_, hok⟩
  have e : (Value.agg cs).cells.toList = cs.toList := rfl
  rw [e] at h0 h1
  simp only [Array.getElem?_toList] at h0 h1
  congr 1
  apply Array.ext'
  match hcs : cs.toList, (show cs.toList.length = 2 by simpa using hsz) with
  | [x0, x1], _ =>
    have q : ∀ i, cs[i]? = [x0, x1][i]? := fun i => by rw [← hcs, Array.getElem?_toList]
    rw [q] at h0 h1
    simp at h0 h1
    rw [h0, h1]

theorem open_Pqc {fuel : Nat} {v : Value} {x : DataW H × List MemPlace} (hf : DataW.trod enc Try.prog W 0 (fun _ => true) true fuel 35 [v] = some x) (hb : Fits Try.prog 35 x.1) :
    ∃ (a : Option Addr) (n cap : Nat) (T : Nat → Pq), v = .slice a n cap ∧ CamePq W a n T := by
  rcases open_slice Try.underlying35 hf with ⟨hcs, hx⟩ | ⟨a, len0, cap0, m, n, D, Pl, hcs, _, hl, _, hm, hx, hall⟩
  · simp at hcs
    subst hcs
    exact ⟨none, 0, 0, fun _ => zeroPq, rfl, .inl rfl, by omega, fun i hi => by omega⟩
  · simp at hcs
    subst hcs
    have hd := congrArg Prod.fst hx
    simp only at hd
    rw [hd] at hb
    clear hd hx
    have hmc : m = cap0 := by simpa using hm
    have hbl := fits_len hb Try.underlying35
    rw [bytesPq] at hbl
    simp at hbl
    unfold reachBytes at hbl
    rw [cellsPq] at hall
    have each : ∀ i, ∃ t : Pq, i < len0 → ∃ cs', W.cells? 0 (a.add (i * 2)) 2 = some cs' ∧ PqAt W cs' t := fun i => by
      by_cases hi : i < len0
      · obtain ⟨cs', h1, h2⟩ := hall i (by omega)
        have hmem : D i ∈ (List.range len0).map D := List.mem_map.2 ⟨i, List.mem_range.2 hi, rfl⟩
        obtain ⟨t, ht⟩ := open_Pq1 h2 (fits_elem hb Try.underlying35 hmem)
        exact ⟨t, fun _ => ⟨cs', h1, ht⟩⟩
      · exact ⟨zeroPq, fun h => absurd h hi⟩
    obtain ⟨T, hT⟩ : ∃ T : Nat → Pq, ∀ i, i < len0 → ∃ cs', W.cells? 0 (a.add (i * 2)) 2 = some cs' ∧ PqAt W cs' (T i) := ⟨fun i => (each i).choose, fun i hi => (each i).choose_spec hi⟩
    clear each
    have hcell : ∀ i, i < len0 → W.cell? (a.add (i * 2)) = some (.string (T i).k) ∧ W.cell? (a.add (i * 2 + 1)) = some (.slice (T i).v.a (T i).v.p.length (T i).v.c) := fun i hi => by
      obtain ⟨cs', h1, ht⟩ := hT i hi
      obtain ⟨_, h3, h4⟩ := ht
      obtain ⟨_, _, hc⟩ := World.cells?_some h1
      refine ⟨?_, ?_⟩
      · rw [← h3, ← hc 0 (by omega), add_add, Nat.add_zero]
      · rw [← h4, ← hc 1 (by omega), add_add]
    refine ⟨some a, len0, cap0, T, rfl, ?_, by omega, fun i hi => ?_⟩
    · by_cases h0 : len0 = 0
      · exact .inl h0
      · obtain ⟨bk, off, spot⟩ := a
        have hspot : spot = none := by
          obtain ⟨q, _⟩ := hcell 0 (by omega)
          simpa [Addr.add] using World.cell?_spot q
        subst hspot
        refine .inr ⟨bk, off, rfl, ?_, fun i hi => ?_⟩
        · obtain ⟨q, _⟩ := hcell 0 (by omega)
          exact World.block_lt_of_cell? W _ q
        · obtain ⟨q0, q1⟩ := hcell i hi
          rw [Addr.add_lit] at q0 q1
          exact ⟨q0, by rw [Nat.add_assoc]; exact q1⟩
    · obtain ⟨cs', _, ht⟩ := hT i hi
      exact ht.1

set_option maxRecDepth 100000 in
theorem open_Pqs {base : Nat} {v : Value} {d : DataW H} {p : List MemPlace} (hok : Value.okWide Try.prog W .any base 35 v) (h : DataW.Trod enc Try.prog W 0 (fun _ => true) true 35 v d p)
    (hb : Fits Try.prog 35 d) :
    ∃ (a : Option Addr) (n cap : Nat) (T : Nat → Pq), v = .slice a n cap ∧ CamePq W a n T := by
  obtain ⟨a0, len0, cap0, rfl⟩ := okWide_slice Try.underlying35 hok
  obtain ⟨fuel, hf⟩ := h
  exact open_Pqc (x := (d, p)) hf hb
end
end Go.Proofs.Ytbafjkanbbcbgaa
