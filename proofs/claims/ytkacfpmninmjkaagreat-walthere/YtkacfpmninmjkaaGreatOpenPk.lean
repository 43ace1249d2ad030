/- Opening a law's argument that is a list of lists of entries, and one that is a list of truth values. -/
import Derived.Test.YtkacfpmninmjkaaGreatOpenEnt
namespace Go.Proofs.YtkacfpmninmjkaaGreat
open Go.ChangeShapes Go.WideShapes Go.ChangeAt Go.RowKit Go.Joins Go.Deep

/-- A list of entries: where, how many, how much room, which. -/
structure Pk where
  a : Option Addr
  n : Nat
  c : Nat
  A : Nat → Ent
/-- A row of them. -/
def RowPk (w : World) (a : Option Addr) (n : Nat) (A : Nat → Pk) : Prop :=
  n = 0 ∨ ∃ b o, a = some ⟨b, o, none⟩ ∧ b < w.heap.size ∧ ∀ i, i < n → w.cell? ⟨b, o + i, none⟩ = some (.slice (A i).a (A i).n (A i).c)
structure CamePk (w : World) (a : Option Addr) (n : Nat) (A : Nat → Pk) : Prop where
  row : RowPk w a n A
  size : n ≤ 140737488351232
  each : ∀ i, i < n → CameEnt w (A i).a (A i).n (A i).A
/-- A row of truth values. -/
structure CameBo (w : World) (a : Option Addr) (n : Nat) (A : Nat → Bool) : Prop where
  row : n = 0 ∨ ∃ b o, a = some ⟨b, o, none⟩ ∧ b < w.heap.size ∧ ∀ i, i < n → w.cell? ⟨b, o + i, none⟩ = some (.bool (A i))
  size : n ≤ 140737488351232

theorem cellsPk : Tryz.prog.cellsOf 38 = 1 := by kernel_rfl
theorem bytesPk : Tryz.prog.bytesOf 38 = 24 := by kernel_rfl
theorem cellsBo : Tryz.prog.cellsOf 4 = 1 := by kernel_rfl
theorem bytesBo : Tryz.prog.bytesOf 4 = 1 := by kernel_rfl

section
variable {H : Type} {enc : TypeId × Value → H} {W : World}

set_option maxRecDepth 100000 in
theorem open_packs {base : Nat} {v : Value} {d : DataW H} {p : List MemPlace} (hok : Value.okWide Tryz.prog W .any base 60 v) (h : DataW.Trod enc Tryz.prog W 0 (fun _ => true) true 60 v d p)
    (hb : Fits Tryz.prog 60 d) :
    ∃ (a : Option Addr) (n cap : Nat) (T : Nat → Pk), v = .slice a n cap ∧ CamePk W a n T := by
  obtain ⟨a0, len0, cap0, rfl⟩ := okWide_slice Tryz.underlying60 hok
  obtain ⟨fuel, hf⟩ := h
  rcases open_slice Tryz.underlying60 hf with ⟨hcs, hx⟩ | ⟨a, len, cap, m, n, D, Pl, hcs, _, hl, _, hm, hx, hall⟩
  · simp [Value.cells] at hcs
    obtain ⟨rfl, rfl, rfl⟩ := hcs
    exact ⟨none, 0, 0, fun _ => ⟨none, 0, 0, fun _ => zeroEnt⟩, rfl, .inl rfl, by omega, fun i hi => by omega⟩
  · simp [Value.cells] at hcs
    obtain ⟨rfl, rfl, rfl⟩ := hcs
    have hd := congrArg Prod.fst hx
    simp only at hd
    subst hd
    have hmc : m = cap0 := by simpa using hm
    have hbl := fits_len hb Tryz.underlying60
    rw [bytesPk] at hbl
    simp at hbl
    unfold reachBytes at hbl
    rw [cellsPk] at hall
    have each : ∀ i, ∃ t : Pk, i < len0 → ∃ cs', W.cells? 0 (a.add (i * 1)) 1 = some cs' ∧ cs'[0]? = some (.slice t.a t.n t.c) ∧ CameEnt W t.a t.n t.A := fun i => by
      by_cases hi : i < len0
      · obtain ⟨cs', h1, h2⟩ := hall i (by omega)
        have hmem : D i ∈ (List.range len0).map D := List.mem_map.2 ⟨i, List.mem_range.2 hi, rfl⟩
        obtain ⟨_, hlc, _⟩ := World.cells?_some h1
        obtain ⟨v, hv⟩ : ∃ v, cs' = [v] := by
          match cs', hlc with
          | [v], _ => exact ⟨v, rfl⟩
        subst hv
        obtain ⟨ta, tn, tc, tA, rfl, ht, _⟩ := open_Entc h2 (fits_elem hb Tryz.underlying60 hmem)
        exact ⟨⟨ta, tn, tc, tA⟩, fun _ => ⟨_, h1, rfl, ht⟩⟩
      · exact ⟨⟨none, 0, 0, fun _ => zeroEnt⟩, fun h => absurd h hi⟩
    obtain ⟨T, hT⟩ : ∃ T : Nat → Pk, ∀ i, i < len0 → ∃ cs', W.cells? 0 (a.add (i * 1)) 1 = some cs' ∧ cs'[0]? = some (.slice (T i).a (T i).n (T i).c) ∧ CameEnt W (T i).a (T i).n (T i).A := ⟨fun i => (each i).choose, fun i hi => (each i).choose_spec hi⟩
    clear each
    have hcell : ∀ i, i < len0 → W.cell? (a.add i) = some (.slice (T i).a (T i).n (T i).c) := fun i hi => by
      obtain ⟨cs', h1, h3, _⟩ := hT i hi
      obtain ⟨_, _, hc⟩ := World.cells?_some h1
      rw [← h3, ← hc 0 (by omega), add_add, Nat.add_zero, Nat.mul_one]
    refine ⟨some a, len0, cap0, T, rfl, ?_, by omega, fun i hi => ?_⟩
    · by_cases h0 : len0 = 0
      · exact .inl h0
      · obtain ⟨bk, off, spot⟩ := a
        have hspot : spot = none := by
          have q := hcell 0 (by omega)
          simpa [Addr.add] using World.cell?_spot q
        subst hspot
        refine .inr ⟨bk, off, rfl, ?_, fun i hi => ?_⟩
        · have q := hcell 0 (by omega)
          exact World.block_lt_of_cell? W _ q
        · have q0 := hcell i hi
          rw [Addr.add_lit] at q0
          exact q0
    · obtain ⟨cs', _, _, ht⟩ := hT i hi
      exact ht

set_option maxRecDepth 100000 in
theorem open_bools {base : Nat} {v : Value} {d : DataW H} {p : List MemPlace} (hok : Value.okWide Tryz.prog W .any base 61 v) (h : DataW.Trod enc Tryz.prog W 0 (fun _ => true) true 61 v d p)
    (hb : Fits Tryz.prog 61 d) :
    ∃ (a : Option Addr) (n cap : Nat) (T : Nat → Bool), v = .slice a n cap ∧ CameBo W a n T := by
  obtain ⟨a0, len0, cap0, rfl⟩ := okWide_slice Tryz.underlying61 hok
  obtain ⟨fuel, hf⟩ := h
  rcases open_slice Tryz.underlying61 hf with ⟨hcs, hx⟩ | ⟨a, len, cap, m, n, D, Pl, hcs, _, hl, _, hm, hx, hall⟩
  · simp [Value.cells] at hcs
    obtain ⟨rfl, rfl, rfl⟩ := hcs
    exact ⟨none, 0, 0, fun _ => false, rfl, .inl rfl, by omega⟩
  · simp [Value.cells] at hcs
    obtain ⟨rfl, rfl, rfl⟩ := hcs
    have hd := congrArg Prod.fst hx
    simp only at hd
    subst hd
    have hmc : m = cap0 := by simpa using hm
    have hbl := fits_len hb Tryz.underlying61
    rw [bytesBo] at hbl
    simp at hbl
    unfold reachBytes at hbl
    rw [cellsBo] at hall
    have each : ∀ i, ∃ t : Bool, i < len0 → ∃ cs', W.cells? 0 (a.add (i * 1)) 1 = some cs' ∧ cs'[0]? = some (.bool t) ∧ True := fun i => by
      by_cases hi : i < len0
      · obtain ⟨cs', h1, h2⟩ := hall i (by omega)
        have hmem : D i ∈ (List.range len0).map D := List.mem_map.2 ⟨i, List.mem_range.2 hi, rfl⟩
        obtain ⟨_, hlc, _⟩ := World.cells?_some h1
        obtain ⟨v, hv⟩ : ∃ v, cs' = [v] := by
          match cs', hlc with
          | [v], _ => exact ⟨v, rfl⟩
        subst hv
        obtain ⟨t, e, _⟩ := DataW.trod_bool Tryz.underlying4 h2
        cases e
        exact ⟨t, fun _ => ⟨_, h1, rfl, trivial⟩⟩
      · exact ⟨false, fun h => absurd h hi⟩
    obtain ⟨T, hT⟩ : ∃ T : Nat → Bool, ∀ i, i < len0 → ∃ cs', W.cells? 0 (a.add (i * 1)) 1 = some cs' ∧ cs'[0]? = some (.bool (T i)) ∧ True := ⟨fun i => (each i).choose, fun i hi => (each i).choose_spec hi⟩
    clear each
    have hcell : ∀ i, i < len0 → W.cell? (a.add i) = some (.bool (T i)) := fun i hi => by
      obtain ⟨cs', h1, h3, _⟩ := hT i hi
      obtain ⟨_, _, hc⟩ := World.cells?_some h1
      rw [← h3, ← hc 0 (by omega), add_add, Nat.add_zero, Nat.mul_one]
    refine ⟨some a, len0, cap0, T, rfl, ?_, by omega⟩
    · by_cases h0 : len0 = 0
      · exact .inl h0
      · obtain ⟨bk, off, spot⟩ := a
        have hspot : spot = none := by
          have q := hcell 0 (by omega)
          simpa [Addr.add] using World.cell?_spot q
        subst hspot
        refine .inr ⟨bk, off, rfl, ?_, fun i hi => ?_⟩
        · have q := hcell 0 (by omega)
          exact World.block_lt_of_cell? W _ q
        · have q0 := hcell i hi
          rw [Addr.add_lit] at q0
          exact q0
end
end Go.Proofs.YtkacfpmninmjkaaGreat
