/- Opening a law's argument that is a list of structs: api.Entry. -/
import Derived.Test.YtkacfpmninmjkaaGreatOpenPc
namespace Go.Proofs.YtkacfpmninmjkaaGreat
open Go.ChangeShapes Go.WideShapes Go.ChangeAt Go.RowKit Go.Joins Go.Deep

/-- One of api.Entry. -/
structure Ent where
  kind : Int
  stamp : Int
  count : Int
  key : ByteArray
  val : Pc
  dead : Bool
def zeroEnt : Ent := ⟨0, 0, 0, .empty, ⟨none, 0, []⟩, false⟩
/-- What is known of one. -/
structure EntOk (w : World) (x : Ent) : Prop where
  kind : -9223372036854775808 ≤ x.kind ∧ x.kind ≤ 9223372036854775807
  stamp : -9223372036854775808 ≤ x.stamp ∧ x.stamp ≤ 9223372036854775807
  count : -9223372036854775808 ≤ x.count ∧ x.count ≤ 9223372036854775807
  key : x.key.size ≤ 140737488351232
  val : PcOk w x.val
  dead : True
theorem EntOk.below {w w' : World} {x : Ent} (h : EntOk w x) (hb : Below w.heap.size w w') : EntOk w' x := ⟨h.kind, h.stamp, h.count, h.key, h.val.below hb, h.dead⟩
/-- A row of them. -/
def RowEnt (w : World) (a : Option Addr) (n : Nat) (A : Nat → Ent) : Prop :=
  n = 0 ∨ ∃ b o, a = some ⟨b, o, none⟩ ∧ b < w.heap.size ∧ ∀ i, i < n → w.cell? ⟨b, o + i * 6, none⟩ = some (.int .i64 (A i).kind) ∧ w.cell? ⟨b, o + i * 6 + 1, none⟩ = some (.int .i64 (A i).stamp) ∧ w.cell? ⟨b, o + i * 6 + 2, none⟩ = some (.int .i64 (A i).count) ∧ w.cell? ⟨b, o + i * 6 + 3, none⟩ = some (.string (A i).key) ∧ w.cell? ⟨b, o + i * 6 + 4, none⟩ = some (.slice (A i).val.a (A i).val.p.length (A i).val.c) ∧ w.cell? ⟨b, o + i * 6 + 5, none⟩ = some (.bool (A i).dead)
theorem RowEnt.here {w : World} {a : Option Addr} {n : Nat} {A : Nat → Ent} (h : RowEnt w a n A) {i : Nat} (hi : i < n) :
    ∃ b o, a = some ⟨b, o, none⟩ ∧ b < w.heap.size ∧ w.cell? ⟨b, o + i * 6, none⟩ = some (.int .i64 (A i).kind) ∧ w.cell? ⟨b, o + i * 6 + 1, none⟩ = some (.int .i64 (A i).stamp) ∧ w.cell? ⟨b, o + i * 6 + 2, none⟩ = some (.int .i64 (A i).count) ∧ w.cell? ⟨b, o + i * 6 + 3, none⟩ = some (.string (A i).key) ∧ w.cell? ⟨b, o + i * 6 + 4, none⟩ = some (.slice (A i).val.a (A i).val.p.length (A i).val.c) ∧ w.cell? ⟨b, o + i * 6 + 5, none⟩ = some (.bool (A i).dead) := by
  rcases h with h | ⟨b, o, e, hlt, hc⟩
  · omega
  · exact ⟨b, o, e, hlt, hc i hi⟩
theorem RowEnt.below {w w' : World} {a : Option Addr} {n : Nat} {A : Nat → Ent} (h : RowEnt w a n A) (hb : Below w.heap.size w w') : RowEnt w' a n A := by
  rcases h with h | ⟨b, o, e, hlt, hc⟩
  · exact .inl h
  · refine .inr ⟨b, o, e, Nat.lt_of_lt_of_le hlt hb.size, fun i hi => ?_⟩
    obtain ⟨q0, q1, q2, q3, q4, q5⟩ := hc i hi
    exact ⟨by rw [hb.cell (p := ⟨b, o + i * 6, none⟩) hlt]; exact q0, by rw [hb.cell (p := ⟨b, o + i * 6 + 1, none⟩) hlt]; exact q1, by rw [hb.cell (p := ⟨b, o + i * 6 + 2, none⟩) hlt]; exact q2, by rw [hb.cell (p := ⟨b, o + i * 6 + 3, none⟩) hlt]; exact q3, by rw [hb.cell (p := ⟨b, o + i * 6 + 4, none⟩) hlt]; exact q4, by rw [hb.cell (p := ⟨b, o + i * 6 + 5, none⟩) hlt]; exact q5⟩
structure CameEnt (w : World) (a : Option Addr) (n : Nat) (A : Nat → Ent) : Prop where
  row : RowEnt w a n A
  size : n ≤ 1954687338211
  each : ∀ i, i < n → EntOk w (A i)
theorem CameEnt.below {w w' : World} {a : Option Addr} {n : Nat} {A : Nat → Ent} (h : CameEnt w a n A) (hb : Below w.heap.size w w') : CameEnt w' a n A := ⟨h.row.below hb, h.size, fun i hi => (h.each i hi).below hb⟩

theorem cellsEnt0 : Tryz.prog.cellsOf 3 = 1 := by kernel_rfl
theorem cellsEnt1 : Tryz.prog.cellsOf 9 = 1 := by kernel_rfl
theorem cellsEnt2 : Tryz.prog.cellsOf 39 = 1 := by kernel_rfl
theorem cellsEnt3 : Tryz.prog.cellsOf 4 = 1 := by kernel_rfl
theorem cellsEnt : Tryz.prog.cellsOf 77 = 6 := by kernel_rfl
theorem bytesEnt : Tryz.prog.bytesOf 77 = 72 := by kernel_rfl

section
variable {H : Type} {enc : TypeId × Value → H} {W : World}

/-- One, told by its cells. -/
def EntAt (W : World) (cs : List Value) (t : Ent) : Prop := EntOk W t ∧ cs[0]? = some (.int .i64 t.kind) ∧ cs[1]? = some (.int .i64 t.stamp) ∧ cs[2]? = some (.int .i64 t.count) ∧ cs[3]? = some (.string t.key) ∧ cs[4]? = some (.slice t.val.a t.val.p.length t.val.c) ∧ cs[5]? = some (.bool t.dead)

set_option maxRecDepth 100000 in
theorem open_Ent1 {n : Nat} {cs : List Value} {x : DataW H × List MemPlace} (h : DataW.trod enc Tryz.prog W 0 (fun _ => true) true n 77 cs = some x) (hb : Fits Tryz.prog 77 x.1) : ∃ t : Ent, EntAt W cs t := by
  obtain ⟨xs, q, _, rfl, hl, hxl, hf⟩ := DataW.trod_struct Tryz.underlying77 h
  have hxm : xs.length = 6 := hxl
  rw [cellsEnt] at hl
  match xs, hxm with
  | [y0, y1, y2, y3, y4, y5], _ =>
    have f0 : DataW.trod enc Tryz.prog W 0 (fun _ => true) true q 3 ((cs.drop 0).take (Tryz.prog.cellsOf 3)) = some y0 := hf 0 _ rfl
    rw [cellsEnt0] at f0
    obtain ⟨v0, e0, _, w0⟩ := DataW.trod_int Tryz.underlying3 f0
    have f1 : DataW.trod enc Tryz.prog W 0 (fun _ => true) true q 3 ((cs.drop 1).take (Tryz.prog.cellsOf 3)) = some y1 := hf 1 _ rfl
    rw [cellsEnt0] at f1
    obtain ⟨v1, e1, _, w1⟩ := DataW.trod_int Tryz.underlying3 f1
    have f2 : DataW.trod enc Tryz.prog W 0 (fun _ => true) true q 3 ((cs.drop 2).take (Tryz.prog.cellsOf 3)) = some y2 := hf 2 _ rfl
    rw [cellsEnt0] at f2
    obtain ⟨v2, e2, _, w2⟩ := DataW.trod_int Tryz.underlying3 f2
    have f3 : DataW.trod enc Tryz.prog W 0 (fun _ => true) true q 9 ((cs.drop 3).take (Tryz.prog.cellsOf 9)) = some y3 := hf 3 _ rfl
    rw [cellsEnt1] at f3
    obtain ⟨v3, e3, z3, _⟩ := DataW.trod_string Tryz.underlying9 f3
    have g3 : Fits Tryz.prog 9 y3.1 := fits_field (j := 3) hb Tryz.underlying77 rfl rfl
    have s3 : v3.size ≤ 140737488351232 := by
      rw [z3] at g3
      have h1 := g3 v3.data.toList.length (by simp [DataW.weights])
      unfold reachBytes at h1
      rw [Array.length_toList] at h1
      exact h1
    have f4 : DataW.trod enc Tryz.prog W 0 (fun _ => true) true q 39 ((cs.drop 4).take (Tryz.prog.cellsOf 39)) = some y4 := hf 4 _ rfl
    rw [cellsEnt2] at f4
    obtain ⟨u4, e4⟩ := take_one_of (cs := cs) (j := 4) (by omega)
    have p4 : DataW.trod enc Tryz.prog W 0 (fun _ => true) true q 39 [u4] = some y4 := by rw [← e4]; exact f4
    have g4 : Fits Tryz.prog 39 y4.1 := fits_field (j := 4) hb Tryz.underlying77 rfl rfl
    obtain ⟨v4, rfl, k4⟩ := open_p p4 g4
    have f5 : DataW.trod enc Tryz.prog W 0 (fun _ => true) true q 4 ((cs.drop 5).take (Tryz.prog.cellsOf 4)) = some y5 := hf 5 _ rfl
    rw [cellsEnt3] at f5
    obtain ⟨v5, e5, _⟩ := DataW.trod_bool Tryz.underlying4 f5
    exact ⟨⟨v0, v1, v2, v3, v4, v5⟩, ⟨bounds_i64 w0, bounds_i64 w1, bounds_i64 w2, s3, k4, trivial⟩, one_cell e0, one_cell e1, one_cell e2, one_cell e3, one_cell e4, one_cell e5⟩

set_option maxRecDepth 100000 in
theorem open_Entv {base : Nat} {v : Value} {d : DataW H} {p : List MemPlace} (hok : Value.okWide Tryz.prog W .any base 77 v) (h : DataW.Trod enc Tryz.prog W 0 (fun _ => true) true 77 v d p)
    (hb : Fits Tryz.prog 77 d) : ∃ t : Ent, v = .agg #[.int .i64 t.kind, .int .i64 t.stamp, .int .i64 t.count, .string t.key, .slice t.val.a t.val.p.length t.val.c, .bool t.dead] ∧ EntOk W t := by
  obtain ⟨cs, rfl, hsz⟩ := okWide_struct Tryz.underlying77 hok
  rw [cellsEnt] at hsz
  obtain ⟨fuel, hf⟩ := h
  obtain ⟨t, hok, h0, h1, h2, h3, h4, h5⟩ := open_Ent1 (x := (d, p)) hf hb
  refine ⟨t, ?_, hok⟩
  have e : (Value.agg cs).cells.toList = cs.toList := rfl
  rw [e] at h0 h1 h2 h3 h4 h5
  simp only [Array.getElem?_toList] at h0 h1 h2 h3 h4 h5
  congr 1
  apply Array.ext'
  match hcs : cs.toList, (show cs.toList.length = 6 by simpa using hsz) with
  | [x0, x1, x2, x3, x4, x5], _ =>
    have q : ∀ i, cs[i]? = [x0, x1, x2, x3, x4, x5][i]? := fun i => by rw [← hcs, Array.getElem?_toList]
    rw [q] at h0 h1 h2 h3 h4 h5
    simp at h0 h1 h2 h3 h4 h5
    rw [h0, h1, h2, h3, h4, h5]

theorem open_Entc {fuel : Nat} {v : Value} {x : DataW H × List MemPlace} (hf : DataW.trod enc Tryz.prog W 0 (fun _ => true) true fuel 38 [v] = some x) (hb : Fits Tryz.prog 38 x.1) :
    ∃ (a : Option Addr) (n cap : Nat) (T : Nat → Ent), v = .slice a n cap ∧ CameEnt W a n T ∧ (n = 0 ∨ ∃ el sp, x.1 = .slice el sp ∧ n = el.length) := by
  rcases open_slice Tryz.underlying38 hf with ⟨hcs, hx⟩ | ⟨a, len0, cap0, m, n, D, Pl, hcs, _, hl, _, hm, hx, hall⟩
  · simp at hcs
    subst hcs
    exact ⟨none, 0, 0, fun _ => zeroEnt, rfl, ⟨.inl rfl, by omega, fun i hi => by omega⟩, .inl rfl⟩
  · simp at hcs
    subst hcs
    have hd := congrArg Prod.fst hx
    simp only at hd
    rw [hd] at hb
    have hel : ∃ el sp, x.1 = .slice el sp ∧ len0 = el.length := ⟨_, _, hd, by simp⟩
    clear hd hx
    have hmc : m = cap0 := by simpa using hm
    have hbl := fits_len hb Tryz.underlying38
    rw [bytesEnt] at hbl
    simp at hbl
    unfold reachBytes at hbl
    rw [cellsEnt] at hall
    have each : ∀ i, ∃ t : Ent, i < len0 → ∃ cs', W.cells? 0 (a.add (i * 6)) 6 = some cs' ∧ EntAt W cs' t := fun i => by
      by_cases hi : i < len0
      · obtain ⟨cs', h1, h2⟩ := hall i (by omega)
        have hmem : D i ∈ (List.range len0).map D := List.mem_map.2 ⟨i, List.mem_range.2 hi, rfl⟩
        obtain ⟨t, ht⟩ := open_Ent1 h2 (fits_elem hb Tryz.underlying38 hmem)
        exact ⟨t, fun _ => ⟨cs', h1, ht⟩⟩
      · exact ⟨zeroEnt, fun h => absurd h hi⟩
    obtain ⟨T, hT⟩ : ∃ T : Nat → Ent, ∀ i, i < len0 → ∃ cs', W.cells? 0 (a.add (i * 6)) 6 = some cs' ∧ EntAt W cs' (T i) := ⟨fun i => (each i).choose, fun i hi => (each i).choose_spec hi⟩
    clear each
    have hcell : ∀ i, i < len0 → W.cell? (a.add (i * 6)) = some (.int .i64 (T i).kind) ∧ W.cell? (a.add (i * 6 + 1)) = some (.int .i64 (T i).stamp) ∧ W.cell? (a.add (i * 6 + 2)) = some (.int .i64 (T i).count) ∧ W.cell? (a.add (i * 6 + 3)) = some (.string (T i).key) ∧ W.cell? (a.add (i * 6 + 4)) = some (.slice (T i).val.a (T i).val.p.length (T i).val.c) ∧ W.cell? (a.add (i * 6 + 5)) = some (.bool (T i).dead) := fun i hi => by
      obtain ⟨cs', h1, ht⟩ := hT i hi
      obtain ⟨_, h3, h4, h5, h6, h7, h8⟩ := ht
      obtain ⟨_, _, hc⟩ := World.cells?_some h1
      refine ⟨?_, ?_, ?_, ?_, ?_, ?_⟩
      · rw [← h3, ← hc 0 (by omega), add_add, Nat.add_zero]
      · rw [← h4, ← hc 1 (by omega), add_add]
      · rw [← h5, ← hc 2 (by omega), add_add]
      · rw [← h6, ← hc 3 (by omega), add_add]
      · rw [← h7, ← hc 4 (by omega), add_add]
      · rw [← h8, ← hc 5 (by omega), add_add]
    refine ⟨some a, len0, cap0, T, rfl, ⟨?_, by omega, fun i hi => ?_⟩, .inr hel⟩
    · by_cases h0 : len0 = 0
      · exact .inl h0
      · obtain ⟨bk, off, spot⟩ := a
        have hspot : spot = none := by
          obtain ⟨q, _⟩ := hcell 0 (by omega)
          simpa [Addr.add] using World.cell?_spot q
        subst hspot
        refine .inr ⟨bk, off, rfl, ?_, fun i hi => ?_⟩
        · obtain ⟨q, _⟩ := hcell 0 (by omega)
          exact World.block_lt_of_cell? W _ q
        · obtain ⟨q0, q1, q2, q3, q4, q5⟩ := hcell i hi
          rw [Addr.add_lit] at q0 q1 q2 q3 q4 q5
          exact ⟨q0, by rw [Nat.add_assoc]; exact q1, by rw [Nat.add_assoc]; exact q2, by rw [Nat.add_assoc]; exact q3, by rw [Nat.add_assoc]; exact q4, by rw [Nat.add_assoc]; exact q5⟩
    · obtain ⟨cs', _, ht⟩ := hT i hi
      exact ht.1

set_option maxRecDepth 100000 in
theorem open_Ents {base : Nat} {v : Value} {d : DataW H} {p : List MemPlace} (hok : Value.okWide Tryz.prog W .any base 38 v) (h : DataW.Trod enc Tryz.prog W 0 (fun _ => true) true 38 v d p)
    (hb : Fits Tryz.prog 38 d) :
    ∃ (a : Option Addr) (n cap : Nat) (T : Nat → Ent), v = .slice a n cap ∧ CameEnt W a n T := by
  obtain ⟨a0, len0, cap0, rfl⟩ := okWide_slice Tryz.underlying38 hok
  obtain ⟨fuel, hf⟩ := h
  obtain ⟨a, n, cap, T, h1, h2, _⟩ := open_Entc (x := (d, p)) hf hb
  exact ⟨a, n, cap, T, h1, h2⟩
end
end Go.Proofs.YtkacfpmninmjkaaGreat
