/- Opening a law's argument that is a list of slices of bytes. -/
import Derived.Test.YtadceolgekbgmabOpenB
import Derived.Test.YtadceolgekbgmabOpenW
import Derived.Lib.SmallJoins
import Derived.Deep.Slices
namespace Go.Proofs.Ytadceolgekbgmab
open Go.ChangeShapes Go.WideShapes Go.ChangeAt Go.RowKit Go.Joins Go.Deep

/-- A slice of bytes: where, how much room, which bytes. -/
structure Pc where
  a : Option Addr
  c : Nat
  p : List Nat
/-- What is known of one. -/
structure PcOk (w : World) (x : Pc) : Prop where
  row : RowB w x.a x.p
  all : All8 x.p
  size : x.p.length ≤ 140737488351232
  none : x.a = none → x.p.length = 0 ∧ x.c = 0
theorem PcOk.below {w w' : World} {x : Pc} (h : PcOk w x) (hb : Below w.heap.size w w') : PcOk w' x := ⟨h.row.below hb, h.all, h.size, h.none⟩
/-- A row of them. -/
def RowP (w : World) (a : Option Addr) (n : Nat) (A : Nat → Pc) : Prop :=
  n = 0 ∨ ∃ b o, a = some ⟨b, o, none⟩ ∧ b < w.heap.size ∧ ∀ i, i < n → w.cell? ⟨b, o + i, none⟩ = some (.slice (A i).a (A i).p.length (A i).c)
theorem RowP.below {w w' : World} {a : Option Addr} {n : Nat} {A : Nat → Pc} (h : RowP w a n A) (hb : Below w.heap.size w w') : RowP w' a n A := by
  rcases h with h | ⟨b, o, e, hlt, hc⟩
  · exact .inl h
  · exact .inr ⟨b, o, e, Nat.lt_of_lt_of_le hlt hb.size, fun i hi => by rw [hb.cell (p := ⟨b, o + i, none⟩) hlt]; exact hc i hi⟩
theorem RowP.here {w : World} {a : Option Addr} {n : Nat} {A : Nat → Pc} (h : RowP w a n A) {i : Nat} (hi : i < n) :
    ∃ b o, a = some ⟨b, o, none⟩ ∧ b < w.heap.size ∧ w.cell? ⟨b, o + i, none⟩ = some (.slice (A i).a (A i).p.length (A i).c) := by
  rcases h with h | ⟨b, o, e, hlt, hc⟩
  · omega
  · exact ⟨b, o, e, hlt, hc i hi⟩
structure CameP (w : World) (a : Option Addr) (n : Nat) (A : Nat → Pc) : Prop where
  row : RowP w a n A
  size : n ≤ 140737488351232
  each : ∀ i, i < n → PcOk w (A i)

theorem cellsB : Try.prog.cellsOf 22 = 1 := by kernel_rfl
theorem bytesB : Try.prog.bytesOf 22 = 24 := by kernel_rfl

section
variable {H : Type} {enc : TypeId × Value → H} {W : World}

theorem one_cell {cs : List Value} {j : Nat} {v : Value} (h : (cs.drop j).take 1 = [v]) : cs[j]? = some v := by
  have h0 : ((cs.drop j).take 1)[0]? = some v := by rw [h]; rfl
  rw [List.getElem?_take_of_lt (by omega), List.getElem?_drop] at h0
  simpa using h0
theorem take_one_of {cs : List Value} {j : Nat} (h : j < cs.length) : ∃ v, (cs.drop j).take 1 = [v] := by
  refine ⟨cs[j], ?_⟩
  rw [List.drop_eq_getElem_cons h]
  rfl

set_option maxRecDepth 100000 in
theorem open_p {fuel : Nat} {v : Value} {x : DataW H × List MemPlace} (hf : DataW.trod enc Try.prog W 0 (fun _ => true) true fuel 22 [v] = some x) (hb : Fits Try.prog 22 x.1) :
    ∃ y : Pc, v = .slice y.a y.p.length y.c ∧ PcOk W y := by
  rcases open_ints Try.underlying22 Try.underlying5 (by kernel_rfl) hf with ⟨hcs, _⟩ | ⟨x', len, cap, zs, hcs, _, hl, hm, hz, rfl, hcell, hwz⟩
  · simp at hcs
    subst hcs
    exact ⟨⟨none, 0, []⟩, rfl, .inl rfl, fun z hz => (by cases hz), by simp, fun _ => ⟨rfl, rfl⟩⟩
  · simp at hcs
    subst hcs
    have hzc : zs.length = cap := by simpa using hz
    have hlen : ((zs.take len).map Int.toNat).length = len := by simp; omega
    have hl2 : len ≤ 140737488351232 := by
      have h1 := fits_len hb Try.underlying22
      rw [bytes8] at h1
      simp [lits] at h1
      unfold reachBytes at h1
      omega
    refine ⟨⟨some x', cap, (zs.take len).map Int.toNat⟩, by simp only [hlen], ?_, ?_, by simp only [hlen]; exact hl2, fun e => by cases e⟩
    · by_cases h0 : len = 0
      · exact .inl (by simp only [hlen]; exact h0)
      · obtain ⟨b, off, rfl, hc⟩ := ints_at hcell (by omega)
        refine .inr ⟨b, off, rfl, ?_, fun i hi => ?_⟩
        · have := hc 0 (by omega)
          exact World.block_lt_of_cell? W _ this
        · simp only [hlen] at hi
          rw [hc i (by omega)]
          have hmem : zs.getD i 0 ∈ zs := by rw [List.getD_eq_getElem?_getD, List.getElem?_eq_getElem (by omega)]; exact List.getElem_mem _
          have hbd := bounds_u8' (hwz _ hmem)
          have e : at0 ((zs.take len).map Int.toNat) i = (zs.getD i 0).toNat := by
            unfold at0
            rw [List.getD_eq_getElem?_getD, List.getElem?_map, List.getElem?_take_of_lt hi, List.getD_eq_getElem?_getD, List.getElem?_eq_getElem (by omega)]; rfl
          simp only [e]
          rw [Int.toNat_of_nonneg hbd.1]
    · intro z hz
      obtain ⟨y, hy, rfl⟩ := List.mem_map.1 hz
      have hbd := bounds_u8' (hwz y (List.mem_of_mem_take hy))
      omega

theorem open_pieces {base : Nat} {v : Value} {d : DataW H} {p : List MemPlace} (hok : Value.okWide Try.prog W .any base 36 v) (h : DataW.Trod enc Try.prog W 0 (fun _ => true) true 36 v d p)
    (hb : Fits Try.prog 36 d) :
    ∃ (a : Option Addr) (n cap : Nat) (T : Nat → Pc), v = .slice a n cap ∧ CameP W a n T := by
  obtain ⟨a0, len0, cap0, rfl⟩ := okWide_slice Try.underlying36 hok
  obtain ⟨fuel, hf⟩ := h
  rcases open_slice Try.underlying36 hf with ⟨hcs, hx⟩ | ⟨a, len, cap, m, n, D, Pl, hcs, _, hl, _, hm, hx, hall⟩
  · simp [Value.cells] at hcs
    obtain ⟨rfl, rfl, rfl⟩ := hcs
    exact ⟨none, 0, 0, fun _ => ⟨none, 0, []⟩, rfl, .inl rfl, by omega, fun i hi => by omega⟩
  · simp [Value.cells] at hcs
    obtain ⟨rfl, rfl, rfl⟩ := hcs
    have hd := congrArg Prod.fst hx
    simp only at hd
    subst hd
    have hmc : m = cap0 := by simpa using hm
    have hbl := fits_len hb Try.underlying36
    rw [bytesB] at hbl
    simp at hbl
    unfold reachBytes at hbl
    rw [cellsB] at hall
    have each : ∀ i, ∃ t : Pc, i < len0 → ∃ cs', W.cells? 0 (a.add (i * 1)) 1 = some cs' ∧ cs'[0]? = some (.slice t.a t.p.length t.c) ∧ PcOk W t := fun i => by
      by_cases hi : i < len0
      · obtain ⟨cs', h1, h2⟩ := hall i (by omega)
        have hmem : D i ∈ (List.range len0).map D := List.mem_map.2 ⟨i, List.mem_range.2 hi, rfl⟩
        obtain ⟨_, hlc, _⟩ := World.cells?_some h1
        obtain ⟨v, hv⟩ : ∃ v, cs' = [v] := by
          match cs', hlc with
          | [v], _ => exact ⟨v, rfl⟩
        subst hv
        obtain ⟨t, rfl, ht⟩ := open_p h2 (fits_elem hb Try.underlying36 hmem)
        exact ⟨t, fun _ => ⟨_, h1, rfl, ht⟩⟩
      · exact ⟨⟨none, 0, []⟩, fun h => absurd h hi⟩
    obtain ⟨T, hT⟩ : ∃ T : Nat → Pc, ∀ i, i < len0 → ∃ cs', W.cells? 0 (a.add (i * 1)) 1 = some cs' ∧ cs'[0]? = some (.slice (T i).a (T i).p.length (T i).c) ∧ PcOk W (T i) := ⟨fun i => (each i).choose, fun i hi => (each i).choose_spec hi⟩
    clear each
    have hcell : ∀ i, i < len0 → W.cell? (a.add i) = some (.slice (T i).a (T i).p.length (T i).c) := fun i hi => by
      obtain ⟨cs', h1, h3, _⟩ := hT i hi
      obtain ⟨_, _, hc⟩ := World.cells?_some h1
      rw [← h3, ← hc 0 (by omega), add_add, Nat.add_zero, Nat.mul_one]
    refine ⟨some a, len0, cap0, T, rfl, ?_, by omega, fun i hi => ?_⟩
    · by_cases h0 : len0 = 0
      · exact .inl h0
      · obtain ⟨bk, off, spot⟩ := a
        have hspot : spot = none := by
          have q := hcell 0 (by omega)
          simpa [Addr.add] using World.cell?_spot q
        subst hspot
        refine .inr ⟨bk, off, rfl, ?_, fun i hi => ?_⟩
        · have q := hcell 0 (by omega)
          exact World.block_lt_of_cell? W _ q
        · have q0 := hcell i hi
          rw [Addr.add_lit] at q0
          exact q0
    · obtain ⟨cs', _, _, ht⟩ := hT i hi
      exact ht
end
end Go.Proofs.Ytadceolgekbgmab
