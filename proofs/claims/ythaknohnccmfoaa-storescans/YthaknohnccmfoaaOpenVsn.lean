/- Opening a law's argument that is a list of structs: api.Version. -/
import Derived.Test.YthaknohnccmfoaaOpenPc
namespace Go.Proofs.Ythaknohnccmfoaa
open Go.ChangeShapes Go.WideShapes Go.ChangeAt Go.RowKit Go.Joins Go.Deep

/-- One of api.Version. -/
structure Vsn where
  key : ByteArray
  stamp : Int
  val : Pc
  dead : Bool
def zeroVsn : Vsn := ⟨.empty, 0, ⟨none, 0, []⟩, false⟩
/-- What is known of one. -/
structure VsnOk (w : World) (x : Vsn) : Prop where
  key : x.key.size ≤ 140737488351232
  stamp : -9223372036854775808 ≤ x.stamp ∧ x.stamp ≤ 9223372036854775807
  val : PcOk w x.val
  dead : True
theorem VsnOk.below {w w' : World} {x : Vsn} (h : VsnOk w x) (hb : Below w.heap.size w w') : VsnOk w' x := ⟨h.key, h.stamp, h.val.below hb, h.dead⟩
/-- A row of them. -/
def RowVsn (w : World) (a : Option Addr) (n : Nat) (A : Nat → Vsn) : Prop :=
  n = 0 ∨ ∃ b o, a = some ⟨b, o, none⟩ ∧ b < w.heap.size ∧ ∀ i, i < n → w.cell? ⟨b, o + i * 4, none⟩ = some (.string (A i).key) ∧ w.cell? ⟨b, o + i * 4 + 1, none⟩ = some (.int .i64 (A i).stamp) ∧ w.cell? ⟨b, o + i * 4 + 2, none⟩ = some (.slice (A i).val.a (A i).val.p.length (A i).val.c) ∧ w.cell? ⟨b, o + i * 4 + 3, none⟩ = some (.bool (A i).dead)
theorem RowVsn.here {w : World} {a : Option Addr} {n : Nat} {A : Nat → Vsn} (h : RowVsn w a n A) {i : Nat} (hi : i < n) :
    ∃ b o, a = some ⟨b, o, none⟩ ∧ b < w.heap.size ∧ w.cell? ⟨b, o + i * 4, none⟩ = some (.string (A i).key) ∧ w.cell? ⟨b, o + i * 4 + 1, none⟩ = some (.int .i64 (A i).stamp) ∧ w.cell? ⟨b, o + i * 4 + 2, none⟩ = some (.slice (A i).val.a (A i).val.p.length (A i).val.c) ∧ w.cell? ⟨b, o + i * 4 + 3, none⟩ = some (.bool (A i).dead) := by
  rcases h with h | ⟨b, o, e, hlt, hc⟩
  · omega
  · exact ⟨b, o, e, hlt, hc i hi⟩
theorem RowVsn.below {w w' : World} {a : Option Addr} {n : Nat} {A : Nat → Vsn} (h : RowVsn w a n A) (hb : Below w.heap.size w w') : RowVsn w' a n A := by
  rcases h with h | ⟨b, o, e, hlt, hc⟩
  · exact .inl h
  · refine .inr ⟨b, o, e, Nat.lt_of_lt_of_le hlt hb.size, fun i hi => ?_⟩
    obtain ⟨q0, q1, q2, q3⟩ := hc i hi
    exact ⟨by rw [hb.cell (p := ⟨b, o + i * 4, none⟩) hlt]; exact q0, by rw [hb.cell (p := ⟨b, o + i * 4 + 1, none⟩) hlt]; exact q1, by rw [hb.cell (p := ⟨b, o + i * 4 + 2, none⟩) hlt]; exact q2, by rw [hb.cell (p := ⟨b, o + i * 4 + 3, none⟩) hlt]; exact q3⟩
structure CameVsn (w : World) (a : Option Addr) (n : Nat) (A : Nat → Vsn) : Prop where
  row : RowVsn w a n A
  size : n ≤ 2513169434843
  each : ∀ i, i < n → VsnOk w (A i)
theorem CameVsn.below {w w' : World} {a : Option Addr} {n : Nat} {A : Nat → Vsn} (h : CameVsn w a n A) (hb : Below w.heap.size w w') : CameVsn w' a n A := ⟨h.row.below hb, h.size, fun i hi => (h.each i hi).below hb⟩

theorem cellsVsn0 : Try.prog.cellsOf 9 = 1 := by kernel_rfl
theorem cellsVsn1 : Try.prog.cellsOf 3 = 1 := by kernel_rfl
theorem cellsVsn2 : Try.prog.cellsOf 28 = 1 := by kernel_rfl
theorem cellsVsn3 : Try.prog.cellsOf 4 = 1 := by kernel_rfl
theorem cellsVsn : Try.prog.cellsOf 30 = 4 := by kernel_rfl
theorem bytesVsn : Try.prog.bytesOf 30 = 56 := by kernel_rfl

section
variable {H : Type} {enc : TypeId × Value → H} {W : World}

/-- One, told by its cells. -/
def VsnAt (W : World) (cs : List Value) (t : Vsn) : Prop := VsnOk W t ∧ cs[0]? = some (.string t.key) ∧ cs[1]? = some (.int .i64 t.stamp) ∧ cs[2]? = some (.slice t.val.a t.val.p.length t.val.c) ∧ cs[3]? = some (.bool t.dead)

set_option maxRecDepth 100000 in
theorem open_Vsn1 {n : Nat} {cs : List Value} {x : DataW H × List MemPlace} (h : DataW.trod enc Try.prog W 0 (fun _ => true) true n 30 cs = some x) (hb : Fits Try.prog 30 x.1) : ∃ t : Vsn, VsnAt W cs t := by
  obtain ⟨xs, q, _, rfl, hl, hxl, hf⟩ := DataW.trod_struct Try.underlying30 h
  have hxm : xs.length = 4 := hxl
  rw [cellsVsn] at hl
  match xs, hxm with
  | [y0, y1, y2, y3], _ =>
    have f0 : DataW.trod enc Try.prog W 0 (fun _ => true) true q 9 ((cs.drop 0).take (Try.prog.cellsOf 9)) = some y0 := hf 0 _ rfl
    rw [cellsVsn0] at f0
    obtain ⟨v0, e0, z0, _⟩ := DataW.trod_string Try.underlying9 f0
    have g0 : Fits Try.prog 9 y0.1 := fits_field (j := 0) hb Try.underlying30 rfl rfl
    have s0 : v0.size ≤ 140737488351232 := by
      rw [z0] at g0
      have h1 := g0 v0.data.toList.length (by simp [DataW.weights])
      unfold reachBytes at h1
      rw [Array.length_toList] at h1
      exact h1
    have f1 : DataW.trod enc Try.prog W 0 (fun _ => true) true q 3 ((cs.drop 1).take (Try.prog.cellsOf 3)) = some y1 := hf 1 _ rfl
    rw [cellsVsn1] at f1
    obtain ⟨v1, e1, _, w1⟩ := DataW.trod_int Try.underlying3 f1
    have f2 : DataW.trod enc Try.prog W 0 (fun _ => true) true q 28 ((cs.drop 2).take (Try.prog.cellsOf 28)) = some y2 := hf 2 _ rfl
    rw [cellsVsn2] at f2
    obtain ⟨u2, e2⟩ := take_one_of (cs := cs) (j := 2) (by omega)
    have p2 : DataW.trod enc Try.prog W 0 (fun _ => true) true q 28 [u2] = some y2 := by rw [← e2]; exact f2
    have g2 : Fits Try.prog 28 y2.1 := fits_field (j := 2) hb Try.underlying30 rfl rfl
    obtain ⟨v2, rfl, k2⟩ := open_p p2 g2
    have f3 : DataW.trod enc Try.prog W 0 (fun _ => true) true q 4 ((cs.drop 3).take (Try.prog.cellsOf 4)) = some y3 := hf 3 _ rfl
    rw [cellsVsn3] at f3
    obtain ⟨v3, e3, _⟩ := DataW.trod_bool Try.underlying4 f3
    exact ⟨⟨v0, v1, v2, v3⟩, ⟨s0, bounds_i64 w1, k2, trivial⟩, one_cell e0, one_cell e1, one_cell e2, one_cell e3⟩

set_option maxRecDepth 100000 in
theorem open_Vsnv {base : Nat} {v : Value} {d : DataW H} {p : List MemPlace} (hok : Value.okWide Try.prog W .any base 30 v) (h : DataW.Trod enc Try.prog W 0 (fun _ => true) true 30 v d p)
    (hb : Fits Try.prog 30 d) : ∃ t : Vsn, v = .agg #[.string t.key, .int .i64 t.stamp, .slice t.val.a t.val.p.length t.val.c, .bool t.dead] ∧ VsnOk W t := by
  obtain ⟨cs, rfl, hsz⟩ := okWide_struct Try.underlying30 hok
  rw [cellsVsn] at hsz
  obtain ⟨fuel, hf⟩ := h
  obtain ⟨t, hok, h0, h1, h2, h3⟩ := open_Vsn1 (x := (d, p)) hf hb
  refine ⟨t, ?_, hok⟩
  have e : (Value.agg cs).cells.toList = cs.toList := rfl
  rw [e] at h0 h1 h2 h3
  simp only [Array.getElem?_toList] at h0 h1 h2 h3
  congr 1
  apply Array.ext'
  match hcs : cs.toList, (show cs.toList.length = 4 by simpa using hsz) with
  | [x0, x1, x2, x3], _ =>
    have q : ∀ i, cs[i]? = [x0, x1, x2, x3][i]? := fun i => by rw [← hcs, Array.getElem?_toList]
    rw [q] at h0 h1 h2 h3
    simp at h0 h1 h2 h3
    rw [h0, h1, h2, h3]

theorem open_Vsnc {fuel : Nat} {v : Value} {x : DataW H × List MemPlace} (hf : DataW.trod enc Try.prog W 0 (fun _ => true) true fuel 23 [v] = some x) (hb : Fits Try.prog 23 x.1) :
    ∃ (a : Option Addr) (n cap : Nat) (T : Nat → Vsn), v = .slice a n cap ∧ CameVsn W a n T := by
  rcases open_slice Try.underlying23 hf with ⟨hcs, hx⟩ | ⟨a, len0, cap0, m, n, D, Pl, hcs, _, hl, _, hm, hx, hall⟩
  · simp at hcs
    subst hcs
    exact ⟨none, 0, 0, fun _ => zeroVsn, rfl, .inl rfl, by omega, fun i hi => by omega⟩
  · simp at hcs
    subst hcs
    have hd := congrArg Prod.fst hx
    simp only at hd
    rw [hd] at hb
    clear hd hx
    have hmc : m = cap0 := by simpa using hm
    have hbl := fits_len hb Try.underlying23
    rw [bytesVsn] at hbl
    simp at hbl
    unfold reachBytes at hbl
    rw [cellsVsn] at hall
    have each : ∀ i, ∃ t : Vsn, i < len0 → ∃ cs', W.cells? 0 (a.add (i * 4)) 4 = some cs' ∧ VsnAt W cs' t := fun i => by
      by_cases hi : i < len0
      · obtain ⟨cs', h1, h2⟩ := hall i (by omega)
        have hmem : D i ∈ (List.range len0).map D := List.mem_map.2 ⟨i, List.mem_range.2 hi, rfl⟩
        obtain ⟨t, ht⟩ := open_Vsn1 h2 (fits_elem hb Try.underlying23 hmem)
        exact ⟨t, fun _ => ⟨cs', h1, ht⟩⟩
      · exact ⟨zeroVsn, fun h => absurd h hi⟩
    obtain ⟨T, hT⟩ : ∃ T : Nat → Vsn, ∀ i, i < len0 → ∃ cs', W.cells? 0 (a.add (i * 4)) 4 = some cs' ∧ VsnAt W cs' (T i) := ⟨fun i => (each i).choose, fun i hi => (each i).choose_spec hi⟩
    clear each
    have hcell : ∀ i, i < len0 → W.cell? (a.add (i * 4)) = some (.string (T i).key) ∧ W.cell? (a.add (i * 4 + 1)) = some (.int .i64 (T i).stamp) ∧ W.cell? (a.add (i * 4 + 2)) = some (.slice (T i).val.a (T i).val.p.length (T i).val.c) ∧ W.cell? (a.add (i * 4 + 3)) = some (.bool (T i).dead) := fun i hi => by
      obtain ⟨cs', h1, ht⟩ := hT i hi
      obtain ⟨_, h3, h4, h5, h6⟩ := ht
      obtain ⟨_, _, hc⟩ := World.cells?_some h1
      refine ⟨?_, ?_, ?_, ?_⟩
      · rw [← h3, ← hc 0 (by omega), add_add, Nat.add_zero]
      · rw [← h4, ← hc 1 (by omega), add_add]
      · rw [← h5, ← hc 2 (by omega), add_add]
      · rw [← h6, ← hc 3 (by omega), add_add]
    refine ⟨some a, len0, cap0, T, rfl, ?_, by omega, fun i hi => ?_⟩
    · by_cases h0 : len0 = 0
      · exact .inl h0
      · obtain ⟨bk, off, spot⟩ := a
        have hspot : spot = none := by
          obtain ⟨q, _⟩ := hcell 0 (by omega)
          simpa [Addr.add] using World.cell?_spot q
        subst hspot
        refine .inr ⟨bk, off, rfl, ?_, fun i hi => ?_⟩
        · obtain ⟨q, _⟩ := hcell 0 (by omega)
          exact World.block_lt_of_cell? W _ q
        · obtain ⟨q0, q1, q2, q3⟩ := hcell i hi
          rw [Addr.add_lit] at q0 q1 q2 q3
          exact ⟨q0, by rw [Nat.add_assoc]; exact q1, by rw [Nat.add_assoc]; exact q2, by rw [Nat.add_assoc]; exact q3⟩
    · obtain ⟨cs', _, ht⟩ := hT i hi
      exact ht.1

set_option maxRecDepth 100000 in
theorem open_Vsns {base : Nat} {v : Value} {d : DataW H} {p : List MemPlace} (hok : Value.okWide Try.prog W .any base 23 v) (h : DataW.Trod enc Try.prog W 0 (fun _ => true) true 23 v d p)
    (hb : Fits Try.prog 23 d) :
    ∃ (a : Option Addr) (n cap : Nat) (T : Nat → Vsn), v = .slice a n cap ∧ CameVsn W a n T := by
  obtain ⟨a0, len0, cap0, rfl⟩ := okWide_slice Try.underlying23 hok
  obtain ⟨fuel, hf⟩ := h
  exact open_Vsnc (x := (d, p)) hf hb
end
end Go.Proofs.Ythaknohnccmfoaa
