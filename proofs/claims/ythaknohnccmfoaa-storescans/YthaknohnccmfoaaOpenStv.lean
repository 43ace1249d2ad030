/- Opening a law's argument that is a list of structs: cloisterlaw14.Step. -/
import Derived.Test.YthaknohnccmfoaaOpenVsn
namespace Go.Proofs.Ythaknohnccmfoaa
open Go.ChangeShapes Go.WideShapes Go.ChangeAt Go.RowKit Go.Joins Go.Deep

/-- One of cloisterlaw14.Step. -/
structure Stv where
  k : Int
  key : ByteArray
  stamp : Int
  val : Pc
  dead : Bool
  to : ByteArray
def zeroStv : Stv := ⟨0, .empty, 0, ⟨none, 0, []⟩, false, .empty⟩
/-- What is known of one. -/
structure StvOk (w : World) (x : Stv) : Prop where
  k : -9223372036854775808 ≤ x.k ∧ x.k ≤ 9223372036854775807
  key : x.key.size ≤ 140737488351232
  stamp : -9223372036854775808 ≤ x.stamp ∧ x.stamp ≤ 9223372036854775807
  val : PcOk w x.val
  dead : True
  to : x.to.size ≤ 140737488351232
theorem StvOk.below {w w' : World} {x : Stv} (h : StvOk w x) (hb : Below w.heap.size w w') : StvOk w' x := ⟨h.k, h.key, h.stamp, h.val.below hb, h.dead, h.to⟩
/-- A row of them. -/
def RowStv (w : World) (a : Option Addr) (n : Nat) (A : Nat → Stv) : Prop :=
  n = 0 ∨ ∃ b o, a = some ⟨b, o, none⟩ ∧ b < w.heap.size ∧ ∀ i, i < n → w.cell? ⟨b, o + i * 6, none⟩ = some (.int .i64 (A i).k) ∧ w.cell? ⟨b, o + i * 6 + 1, none⟩ = some (.string (A i).key) ∧ w.cell? ⟨b, o + i * 6 + 2, none⟩ = some (.int .i64 (A i).stamp) ∧ w.cell? ⟨b, o + i * 6 + 3, none⟩ = some (.slice (A i).val.a (A i).val.p.length (A i).val.c) ∧ w.cell? ⟨b, o + i * 6 + 4, none⟩ = some (.bool (A i).dead) ∧ w.cell? ⟨b, o + i * 6 + 5, none⟩ = some (.string (A i).to)
theorem RowStv.here {w : World} {a : Option Addr} {n : Nat} {A : Nat → Stv} (h : RowStv w a n A) {i : Nat} (hi : i < n) :
    ∃ b o, a = some ⟨b, o, none⟩ ∧ b < w.heap.size ∧ w.cell? ⟨b, o + i * 6, none⟩ = some (.int .i64 (A i).k) ∧ w.cell? ⟨b, o + i * 6 + 1, none⟩ = some (.string (A i).key) ∧ w.cell? ⟨b, o + i * 6 + 2, none⟩ = some (.int .i64 (A i).stamp) ∧ w.cell? ⟨b, o + i * 6 + 3, none⟩ = some (.slice (A i).val.a (A i).val.p.length (A i).val.c) ∧ w.cell? ⟨b, o + i * 6 + 4, none⟩ = some (.bool (A i).dead) ∧ w.cell? ⟨b, o + i * 6 + 5, none⟩ = some (.string (A i).to) := by
  rcases h with h | ⟨b, o, e, hlt, hc⟩
  · omega
  · exact ⟨b, o, e, hlt, hc i hi⟩
theorem RowStv.below {w w' : World} {a : Option Addr} {n : Nat} {A : Nat → Stv} (h : RowStv w a n A) (hb : Below w.heap.size w w') : RowStv w' a n A := by
  rcases h with h | ⟨b, o, e, hlt, hc⟩
  · exact .inl h
  · refine .inr ⟨b, o, e, Nat.lt_of_lt_of_le hlt hb.size, fun i hi => ?_⟩
    obtain ⟨q0, q1, q2, q3, q4, q5⟩ := hc i hi
    exact ⟨by rw [hb.cell (p := ⟨b, o + i * 6, none⟩) hlt]; exact q0, by rw [hb.cell (p := ⟨b, o + i * 6 + 1, none⟩) hlt]; exact q1, by rw [hb.cell (p := ⟨b, o + i * 6 + 2, none⟩) hlt]; exact q2, by rw [hb.cell (p := ⟨b, o + i * 6 + 3, none⟩) hlt]; exact q3, by rw [hb.cell (p := ⟨b, o + i * 6 + 4, none⟩) hlt]; exact q4, by rw [hb.cell (p := ⟨b, o + i * 6 + 5, none⟩) hlt]; exact q5⟩
structure CameStv (w : World) (a : Option Addr) (n : Nat) (A : Nat → Stv) : Prop where
  row : RowStv w a n A
  size : n ≤ 1759218604390
  each : ∀ i, i < n → StvOk w (A i)
theorem CameStv.below {w w' : World} {a : Option Addr} {n : Nat} {A : Nat → Stv} (h : CameStv w a n A) (hb : Below w.heap.size w w') : CameStv w' a n A := ⟨h.row.below hb, h.size, fun i hi => (h.each i hi).below hb⟩

theorem cellsStv0 : Try.prog.cellsOf 3 = 1 := by kernel_rfl
theorem cellsStv1 : Try.prog.cellsOf 9 = 1 := by kernel_rfl
theorem cellsStv2 : Try.prog.cellsOf 28 = 1 := by kernel_rfl
theorem cellsStv3 : Try.prog.cellsOf 4 = 1 := by kernel_rfl
theorem cellsStv : Try.prog.cellsOf 32 = 6 := by kernel_rfl
theorem bytesStv : Try.prog.bytesOf 32 = 80 := by kernel_rfl

section
variable {H : Type} {enc : TypeId × Value → H} {W : World}

/-- One, told by its cells. -/
def StvAt (W : World) (cs : List Value) (t : Stv) : Prop := StvOk W t ∧ cs[0]? = some (.int .i64 t.k) ∧ cs[1]? = some (.string t.key) ∧ cs[2]? = some (.int .i64 t.stamp) ∧ cs[3]? = some (.slice t.val.a t.val.p.length t.val.c) ∧ cs[4]? = some (.bool t.dead) ∧ cs[5]? = some (.string t.to)

set_option maxRecDepth 100000 in
theorem open_Stv1 {n : Nat} {cs : List Value} {x : DataW H × List MemPlace} (h : DataW.trod enc Try.prog W 0 (fun _ => true) true n 32 cs = some x) (hb : Fits Try.prog 32 x.1) : ∃ t : Stv, StvAt W cs t := by
  obtain ⟨xs, q, _, rfl, hl, hxl, hf⟩ := DataW.trod_struct Try.underlying32 h
  have hxm : xs.length = 3 := hxl
  rw [cellsStv] at hl
  match xs, hxm with
  | [y0, y1, y2], _ =>
    have f0 : DataW.trod enc Try.prog W 0 (fun _ => true) true q 3 ((cs.drop 0).take (Try.prog.cellsOf 3)) = some y0 := hf 0 _ rfl
    rw [cellsStv0] at f0
    obtain ⟨v0, e0, _, w0⟩ := DataW.trod_int Try.underlying3 f0
    have f1 : DataW.trod enc Try.prog W 0 (fun _ => true) true q 30 ((cs.drop 1).take (Try.prog.cellsOf 30)) = some y1 := hf 1 _ rfl
    rw [cellsVsn] at f1
    have g1 : Fits Try.prog 30 y1.1 := fits_field (j := 1) hb Try.underlying32 rfl rfl
    obtain ⟨t1, k1, h1, h2, h3, h4⟩ := open_Vsn1 f1 g1
    have f5 : DataW.trod enc Try.prog W 0 (fun _ => true) true q 9 ((cs.drop 5).take (Try.prog.cellsOf 9)) = some y2 := hf 2 _ rfl
    rw [cellsStv1] at f5
    obtain ⟨v5, e5, z5, _⟩ := DataW.trod_string Try.underlying9 f5
    have g5 : Fits Try.prog 9 y2.1 := fits_field (j := 2) hb Try.underlying32 rfl rfl
    have s5 : v5.size ≤ 140737488351232 := by
      rw [z5] at g5
      have h1 := g5 v5.data.toList.length (by simp [DataW.weights])
      unfold reachBytes at h1
      rw [Array.length_toList] at h1
      exact h1
    have cut : ∀ i v, ((cs.drop 1).take 4)[i]? = some v → cs[1 + i]? = some v := fun i v h => by
      have hi := (List.getElem?_eq_some_iff.1 h).1
      rw [List.length_take] at hi
      rw [List.getElem?_take_of_lt (by omega), List.getElem?_drop] at h
      exact h
    exact ⟨⟨v0, t1.key, t1.stamp, t1.val, t1.dead, v5⟩, ⟨bounds_i64 w0, k1.key, k1.stamp, k1.val, trivial, s5⟩, one_cell e0, cut 0 _ h1, cut 1 _ h2, cut 2 _ h3, cut 3 _ h4, one_cell e5⟩

set_option maxRecDepth 100000 in
theorem open_Stvv {base : Nat} {v : Value} {d : DataW H} {p : List MemPlace} (hok : Value.okWide Try.prog W .any base 32 v) (h : DataW.Trod enc Try.prog W 0 (fun _ => true) true 32 v d p)
    (hb : Fits Try.prog 32 d) : ∃ t : Stv, v = .agg #[.int .i64 t.k, .string t.key, .int .i64 t.stamp, .slice t.val.a t.val.p.length t.val.c, .bool t.dead, .string t.to] ∧ StvOk W t := by
  obtain ⟨cs, rfl, hsz⟩ := okWide_struct Try.underlying32 hok
  rw [cellsStv] at hsz
  obtain ⟨fuel, hf⟩ := h
  obtain ⟨t, hok, h0, h1, h2, h3, h4, h5⟩ := open_Stv1 (x := (d, p)) hf hb
  refine ⟨t, ?_, hok⟩
  have e : (Value.agg cs).cells.toList = cs.toList := rfl
  rw [e] at h0 h1 h2 h3 h4 h5
  simp only [Array.getElem?_toList] at h0 h1 h2 h3 h4 h5
  congr 1
  apply Array.ext'
  match hcs : cs.toList, (show cs.toList.length = 6 by simpa using hsz) with
  | [x0, x1, x2, x3, x4, x5], _ =>
    have q : ∀ i, cs[i]? = [x0, x1, x2, x3, x4, x5][i]? := fun i => by rw [← hcs, Array.getElem?_toList]
    rw [q] at h0 h1 h2 h3 h4 h5
    simp at h0 h1 h2 h3 h4 h5
    rw [h0, h1, h2, h3, h4, h5]

theorem open_Stvc {fuel : Nat} {v : Value} {x : DataW H × List MemPlace} (hf : DataW.trod enc Try.prog W 0 (fun _ => true) true fuel 22 [v] = some x) (hb : Fits Try.prog 22 x.1) :
    ∃ (a : Option Addr) (n cap : Nat) (T : Nat → Stv), v = .slice a n cap ∧ CameStv W a n T := by
  rcases open_slice Try.underlying22 hf with ⟨hcs, hx⟩ | ⟨a, len0, cap0, m, n, D, Pl, hcs, _, hl, _, hm, hx, hall⟩
  · simp at hcs
    subst hcs
    exact ⟨none, 0, 0, fun _ => zeroStv, rfl, .inl rfl, by omega, fun i hi => by omega⟩
  · simp at hcs
    subst hcs
    have hd := congrArg Prod.fst hx
    simp only at hd
    rw [hd] at hb
    clear hd hx
    have hmc : m = cap0 := by simpa using hm
    have hbl := fits_len hb Try.underlying22
    rw [bytesStv] at hbl
    simp at hbl
    unfold reachBytes at hbl
    rw [cellsStv] at hall
    have each : ∀ i, ∃ t : Stv, i < len0 → ∃ cs', W.cells? 0 (a.add (i * 6)) 6 = some cs' ∧ StvAt W cs' t := fun i => by
      by_cases hi : i < len0
      · obtain ⟨cs', h1, h2⟩ := hall i (by omega)
        have hmem : D i ∈ (List.range len0).map D := List.mem_map.2 ⟨i, List.mem_range.2 hi, rfl⟩
        obtain ⟨t, ht⟩ := open_Stv1 h2 (fits_elem hb Try.underlying22 hmem)
        exact ⟨t, fun _ => ⟨cs', h1, ht⟩⟩
      · exact ⟨zeroStv, fun h => absurd h hi⟩
    obtain ⟨T, hT⟩ : ∃ T : Nat → Stv, ∀ i, i < len0 → ∃ cs', W.cells? 0 (a.add (i * 6)) 6 = some cs' ∧ StvAt W cs' (T i) := ⟨fun i => (each i).choose, fun i hi => (each i).choose_spec hi⟩
    clear each
    have hcell : ∀ i, i < len0 → W.cell? (a.add (i * 6)) = some (.int .i64 (T i).k) ∧ W.cell? (a.add (i * 6 + 1)) = some (.string (T i).key) ∧ W.cell? (a.add (i * 6 + 2)) = some (.int .i64 (T i).stamp) ∧ W.cell? (a.add (i * 6 + 3)) = some (.slice (T i).val.a (T i).val.p.length (T i).val.c) ∧ W.cell? (a.add (i * 6 + 4)) = some (.bool (T i).dead) ∧ W.cell? (a.add (i * 6 + 5)) = some (.string (T i).to) := fun i hi => by
      obtain ⟨cs', h1, ht⟩ := hT i hi
      obtain ⟨_, h3, h4, h5, h6, h7, h8⟩ := ht
      obtain ⟨_, _, hc⟩ := World.cells?_some h1
      refine ⟨?_, ?_, ?_, ?_, ?_, ?_⟩
      · rw [← h3, ← hc 0 (by omega), add_add, Nat.add_zero]
      · rw [← h4, ← hc 1 (by omega), add_add]
      · rw [← h5, ← hc 2 (by omega), add_add]
      · rw [← h6, ← hc 3 (by omega), add_add]
      · rw [← h7, ← hc 4 (by omega), add_add]
      · rw [← h8, ← hc 5 (by omega), add_add]
    refine ⟨some a, len0, cap0, T, rfl, ?_, by omega, fun i hi => ?_⟩
    · by_cases h0 : len0 = 0
      · exact .inl h0
      · obtain ⟨bk, off, spot⟩ := a
        have hspot : spot = none := by
          obtain ⟨q, _⟩ := hcell 0 (by omega)
          simpa [Addr.add] using World.cell?_spot q
        subst hspot
        refine .inr ⟨bk, off, rfl, ?_, fun i hi => ?_⟩
        · obtain ⟨q, _⟩ := hcell 0 (by omega)
          exact World.block_lt_of_cell? W _ q
        · obtain ⟨q0, q1, q2, q3, q4, q5⟩ := hcell i hi
          rw [Addr.add_lit] at q0 q1 q2 q3 q4 q5
          exact ⟨q0, by rw [Nat.add_assoc]; exact q1, by rw [Nat.add_assoc]; exact q2, by rw [Nat.add_assoc]; exact q3, by rw [Nat.add_assoc]; exact q4, by rw [Nat.add_assoc]; exact q5⟩
    · obtain ⟨cs', _, ht⟩ := hT i hi
      exact ht.1

set_option maxRecDepth 100000 in
theorem open_Stvs {base : Nat} {v : Value} {d : DataW H} {p : List MemPlace} (hok : Value.okWide Try.prog W .any base 22 v) (h : DataW.Trod enc Try.prog W 0 (fun _ => true) true 22 v d p)
    (hb : Fits Try.prog 22 d) :
    ∃ (a : Option Addr) (n cap : Nat) (T : Nat → Stv), v = .slice a n cap ∧ CameStv W a n T := by
  obtain ⟨a0, len0, cap0, rfl⟩ := okWide_slice Try.underlying22 hok
  obtain ⟨fuel, hf⟩ := h
  exact open_Stvc (x := (d, p)) hf hb
end
end Go.Proofs.Ythaknohnccmfoaa
