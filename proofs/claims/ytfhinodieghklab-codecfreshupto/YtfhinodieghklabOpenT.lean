/- Opening a law's argument that is a list of things. -/
import Derived.Test.YtfhinodieghklabCodecThereW
import Derived.Test.YtfhinodieghklabOpen8
import Derived.Test.YtfhinodieghklabOpenS
import Derived.Test.YtfhinodieghklabBulk
namespace Go.Proofs.Ytfhinodieghklab
open Go.ChangeShapes Go.WideShapes Go.ChangeAt Go.RowKit Go.Joins Go.Deep

theorem cellsU : Try.prog.cellsOf 24 = 1 := by kernel_rfl
theorem cellsB : Try.prog.cellsOf 23 = 1 := by kernel_rfl
theorem cellsT : Try.prog.cellsOf 26 = 4 := by kernel_rfl

section
variable {H : Type} {enc : TypeId × Value → H} {W : World}

theorem one_cell {cs : List Value} {j : Nat} {v : Value} (h : (cs.drop j).take 1 = [v]) : cs[j]? = some v := by
  have h0 : ((cs.drop j).take 1)[0]? = some v := by rw [h]; rfl
  rw [List.getElem?_take_of_lt (by omega), List.getElem?_drop] at h0
  simpa using h0

theorem take_one_of {cs : List Value} {j : Nat} (h : j < cs.length) : ∃ v, (cs.drop j).take 1 = [v] := by
  refine ⟨cs[j], ?_⟩
  rw [List.drop_eq_getElem_cons h]
  rfl

set_option maxRecDepth 100000 in
theorem open_p {fuel : Nat} {v : Value} {x : DataW H × List MemPlace} (hf : DataW.trod enc Try.prog W 0 (fun _ => true) true fuel 23 [v] = some x) (hb : Rows.uptoBulk x.1 ≤ 1048576) :
    ∃ (a : Option Addr) (p : List Nat) (c : Nat), v = .slice a p.length c ∧ RowB W a p ∧ All8 p ∧ p.length ≤ 1048576 ∧ (a = none → p.length = 0 ∧ c = 0) := by
  rcases open_ints Try.underlying23 Try.underlying5 (by kernel_rfl) hf with ⟨hcs, _⟩ | ⟨x', len, cap, zs, hcs, _, hl, hm, hz, rfl, hcell, hwz⟩
  · simp at hcs
    subst hcs
    exact ⟨none, [], 0, rfl, .inl rfl, fun z hz => (by cases hz), by simp, fun _ => ⟨rfl, rfl⟩⟩
  · simp at hcs
    subst hcs
    have hzc : zs.length = cap := by simpa using hz
    have hlen : ((zs.take len).map Int.toNat).length = len := by simp; omega
    have hl2 : len ≤ 1048576 := by
      simp only [Rows.uptoBulk] at hb
      have h1 := bulk_len (H := H) (lits .u8 (zs.take len))
      simp [lits] at h1
      simp [lits] at hb
      omega
    refine ⟨some x', (zs.take len).map Int.toNat, cap, by rw [hlen], ?_, ?_, by rw [hlen]; exact hl2, fun e => by cases e⟩
    · by_cases h0 : len = 0
      · exact .inl (by rw [hlen]; exact h0)
      · obtain ⟨b, off, rfl, hc⟩ := ints_at hcell (by omega)
        refine .inr ⟨b, off, rfl, ?_, fun i hi => ?_⟩
        · have := hc 0 (by omega)
          exact World.block_lt_of_cell? W _ this
        · rw [hlen] at hi
          rw [hc i (by omega)]
          have hmem : zs.getD i 0 ∈ zs := by rw [List.getD_eq_getElem?_getD, List.getElem?_eq_getElem (by omega)]; exact List.getElem_mem _
          have hbd := bounds_u8' (hwz _ hmem)
          have e : at0 ((zs.take len).map Int.toNat) i = (zs.getD i 0).toNat := by
            unfold at0
            rw [List.getD_eq_getElem?_getD, List.getElem?_map, List.getElem?_take_of_lt hi, List.getD_eq_getElem?_getD, List.getElem?_eq_getElem (by omega)]; rfl
          rw [e, Int.toNat_of_nonneg hbd.1]
    · intro z hz
      obtain ⟨y, hy, rfl⟩ := List.mem_map.1 hz
      have hbd := bounds_u8' (hwz y (List.mem_of_mem_take hy))
      omega

/-- One thing, told by its four cells. -/
def ThingAt (W : World) (cs : List Value) (t : Thing) : Prop :=
  t.Ok ∧ RowB W t.a t.p ∧ cs[0]? = some (.int .i64 t.k) ∧ cs[1]? = some (.int .u64 (t.v : Int)) ∧ cs[2]? = some (.int .i64 t.n) ∧ cs[3]? = some (.slice t.a t.p.length t.c)

set_option maxRecDepth 100000 in
theorem open_thing {n : Nat} {cs : List Value} {x : DataW H × List MemPlace} (h : DataW.trod enc Try.prog W 0 (fun _ => true) true n 26 cs = some x) (hb : Rows.uptoBulk x.1 ≤ 1048576) : ∃ t : Thing, ThingAt W cs t := by
  obtain ⟨xs, q, _, rfl, hl, hxl, hf⟩ := DataW.trod_struct Try.underlying26 h
  have hx4 : xs.length = 4 := hxl
  rw [cellsT] at hl
  match xs, hx4 with
  | [y0, y1, y2, y3], _ =>
    have f0 : DataW.trod enc Try.prog W 0 (fun _ => true) true q 3 ((cs.drop 0).take (Try.prog.cellsOf 3)) = some y0 := hf 0 _ rfl
    have f1 : DataW.trod enc Try.prog W 0 (fun _ => true) true q 24 ((cs.drop 1).take (Try.prog.cellsOf 24)) = some y1 := hf 1 _ rfl
    have f2 : DataW.trod enc Try.prog W 0 (fun _ => true) true q 3 ((cs.drop 2).take (Try.prog.cellsOf 3)) = some y2 := hf 2 _ rfl
    have f3 : DataW.trod enc Try.prog W 0 (fun _ => true) true q 23 ((cs.drop 3).take (Try.prog.cellsOf 23)) = some y3 := hf 3 _ rfl
    rw [cellsI] at f0 f2
    rw [cellsU] at f1
    rw [cellsB] at f3
    obtain ⟨k, hk, _, hwk⟩ := DataW.trod_int Try.underlying3 f0
    obtain ⟨v, hv, _, hwv⟩ := DataW.trod_int Try.underlying24 f1
    obtain ⟨m, hm, _, hwm⟩ := DataW.trod_int Try.underlying3 f2
    obtain ⟨v3, hv3⟩ := take_one_of (cs := cs) (j := 3) (by omega)
    have f3' : DataW.trod enc Try.prog W 0 (fun _ => true) true q 23 [v3] = some y3 := by rw [← hv3]; exact f3
    have hb3 : Rows.uptoBulk y3.1 ≤ 1048576 := by
      simp only [List.map_cons, List.map_nil, Rows.uptoBulk, Rows.uptoBulkAll] at hb
      omega
    obtain ⟨a, p, c, rfl, hr, h8, hpl, hna⟩ := open_p f3' hb3
    have bm := bounds_i64 hwm
    obtain ⟨vn, rfl, hvn⟩ := nat_of_u64 hwv
    have c0 : cs[0]? = some (.int .i64 k) := one_cell hk
    have c1 : cs[1]? = some (.int .u64 (vn : Int)) := one_cell hv
    have c2 : cs[2]? = some (.int .i64 m) := one_cell hm
    exact ⟨⟨k, vn, m, p, a, c⟩, ⟨hvn, bm.1, bm.2, h8, hpl, hna⟩, hr, c0, c1, c2, one_cell hv3⟩

theorem open_things {base : Nat} {v : Value} {d : DataW H} {p : List MemPlace} (hok : Value.okWide Try.prog W .any base 22 v) (h : DataW.Trod enc Try.prog W 0 (fun _ => true) true 22 v d p)
    (hb : Rows.uptoBulk d ≤ 1048576) :
    ∃ (a : Option Addr) (n cap : Nat) (T : Nat → Thing), v = .slice a n cap ∧ CameT W a n T := by
  obtain ⟨a0, len0, cap0, rfl⟩ := okWide_slice Try.underlying22 hok
  obtain ⟨fuel, hf⟩ := h
  rcases open_slice Try.underlying22 hf with ⟨hcs, hx⟩ | ⟨a, len, cap, m, n, D, Pl, hcs, _, hl, _, hm, hx, hall⟩
  · simp [Value.cells] at hcs
    obtain ⟨rfl, rfl, rfl⟩ := hcs
    exact ⟨none, 0, 0, fun _ => ⟨0, 0, 0, [], none, 0⟩, rfl, by omega, .inl rfl, fun i hi => by omega, fun i hi => by omega⟩
  · simp [Value.cells] at hcs
    obtain ⟨rfl, rfl, rfl⟩ := hcs
    have hd := congrArg Prod.fst hx
    simp only at hd
    subst hd
    have hmc : m = cap0 := by simpa using hm
    simp only [Rows.uptoBulk] at hb
    have hbl := bulk_len ((List.range len0).map D)
    simp at hbl
    rw [cellsT] at hall
    have each : ∀ i, ∃ t : Thing, i < len0 → ∃ cs', W.cells? 0 (a.add (i * 4)) 4 = some cs' ∧ ThingAt W cs' t := fun i => by
      by_cases hi : i < len0
      · obtain ⟨cs', h1, h2⟩ := hall i (by omega)
        have hmem : D i ∈ (List.range len0).map D := List.mem_map.2 ⟨i, List.mem_range.2 hi, rfl⟩
        have hbi := bulk_mem hmem
        obtain ⟨t, ht⟩ := open_thing h2 (by show Rows.uptoBulk (D i) ≤ _; omega)
        exact ⟨t, fun _ => ⟨cs', h1, ht⟩⟩
      · exact ⟨⟨0, 0, 0, [], none, 0⟩, fun h => absurd h hi⟩
    obtain ⟨T, hT⟩ : ∃ T : Nat → Thing, ∀ i, i < len0 → ∃ cs', W.cells? 0 (a.add (i * 4)) 4 = some cs' ∧ ThingAt W cs' (T i) := ⟨fun i => (each i).choose, fun i hi => (each i).choose_spec hi⟩
    clear each
    have hcell : ∀ i, i < len0 → W.cell? (a.add (i * 4)) = some (.int .i64 (T i).k) ∧ W.cell? (a.add (i * 4 + 1)) = some (.int .u64 ((T i).v : Int)) ∧ W.cell? (a.add (i * 4 + 2)) = some (.int .i64 (T i).n) ∧ W.cell? (a.add (i * 4 + 3)) = some (.slice (T i).a (T i).p.length (T i).c) := fun i hi => by
      obtain ⟨cs', h1, ht⟩ := hT i hi
      obtain ⟨_, _, h3, h4, h5, h6⟩ := ht
      obtain ⟨_, _, hc⟩ := World.cells?_some h1
      refine ⟨?_, ?_, ?_, ?_⟩
      · rw [← h3, ← hc 0 (by omega), add_add, Nat.add_zero]
      · rw [← h4, ← hc 1 (by omega), add_add]
      · rw [← h5, ← hc 2 (by omega), add_add]
      · rw [← h6, ← hc 3 (by omega), add_add]
    refine ⟨some a, len0, cap0, T, rfl, by omega, ?_, fun i hi => ?_, fun i hi => ?_⟩
    · by_cases h0 : len0 = 0
      · exact .inl h0
      · obtain ⟨bk, off, spot⟩ := a
        have hspot : spot = none := by
          obtain ⟨q, _⟩ := hcell 0 (by omega)
          simpa [Addr.add] using World.cell?_spot q
        subst hspot
        refine .inr ⟨bk, off, rfl, ?_, fun i hi => ?_⟩
        · obtain ⟨q, _⟩ := hcell 0 (by omega)
          exact World.block_lt_of_cell? W _ q
        · obtain ⟨q0, q1, q2, q3⟩ := hcell i hi
          rw [Addr.add_lit] at q0 q1 q2 q3
          exact ⟨q0, by rw [Nat.add_assoc]; exact q1, by rw [Nat.add_assoc]; exact q2, by rw [Nat.add_assoc]; exact q3⟩
    · obtain ⟨cs', _, ht⟩ := hT i hi
      exact ht.1
    · obtain ⟨cs', _, ht⟩ := hT i hi
      exact ht.2.1

end
end Go.Proofs.Ytfhinodieghklab
