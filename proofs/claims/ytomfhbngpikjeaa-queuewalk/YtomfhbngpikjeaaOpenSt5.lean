/- Opening a law's argument that is a list of texts. -/
import Derived.Test.YtomfhbngpikjeaaOpenT5
import Derived.Test.YtomfhbngpikjeaaQuRowS
namespace Go.Proofs.Ytomfhbngpikjeaa
open Go.ChangeShapes Go.WideShapes Go.ChangeAt Go.RowKit Go.Joins Go.Deep

section
variable {H : Type} {enc : TypeId × Value → H} {W : World}

set_option maxRecDepth 100000 in
theorem open_strs {base : Nat} {v : Value} {d : DataW H} {p : List MemPlace} (hok : Value.okWide Try.prog W .any base 22 v) (h : DataW.Trod enc Try.prog W 0 (fun _ => true) true 22 v d p) :
    ∃ (a : Option Addr) (cap : Nat) (th : List ByteArray), v = .slice a th.length cap ∧ RwS W a th ∧ (a = none → th.length = 0 ∧ cap = 0) := by
  obtain ⟨a0, len0, cap0, rfl⟩ := okWide_slice Try.underlying22 hok
  obtain ⟨fuel, hf⟩ := h
  rcases open_slice Try.underlying22 hf with ⟨hcs, hx⟩ | ⟨a, len, cap, m, n, D, Pl, hcs, _, hl, _, hm, hx, hall⟩
  · simp [Value.cells] at hcs
    obtain ⟨rfl, rfl, rfl⟩ := hcs
    exact ⟨none, 0, [], rfl, .inl rfl, fun _ => ⟨rfl, rfl⟩⟩
  · simp [Value.cells] at hcs
    obtain ⟨rfl, rfl, rfl⟩ := hcs
    have hmc : m = cap0 := by simpa using hm
    rw [cellsStrQ] at hall
    have each : ∀ i, ∃ t : ByteArray, i < len0 → W.cell? (a.add i) = some (.string t) := fun i => by
      by_cases hi : i < len0
      · obtain ⟨cs', h1, h2⟩ := hall i (by omega)
        obtain ⟨t, ht, _, _⟩ := DataW.trod_string Try.underlying9 h2
        obtain ⟨_, _, hc⟩ := World.cells?_some h1
        refine ⟨t, fun _ => ?_⟩
        have h0 := hc 0 (by omega)
        rw [add_add, Nat.add_zero, Nat.mul_one] at h0
        rw [h0, ht]
        rfl
      · exact ⟨.empty, fun h => absurd h hi⟩
    obtain ⟨T, hT⟩ : ∃ T : Nat → ByteArray, ∀ i, i < len0 → W.cell? (a.add i) = some (.string (T i)) := ⟨fun i => (each i).choose, fun i hi => (each i).choose_spec hi⟩
    clear each
    refine ⟨some a, cap0, (List.range len0).map T, by simp, ?_, fun e => by cases e⟩
    by_cases h0 : len0 = 0
    · exact .inl (by simp [h0])
    · obtain ⟨bk, off, spot⟩ := a
      have hspot : spot = none := by
        have q := hT 0 (by omega)
        simpa [Addr.add] using World.cell?_spot q
      subst hspot
      refine .inr ⟨bk, off, rfl, World.block_lt_of_cell? W _ (hT 0 (by omega)), fun i hi => ?_⟩
      have hi' : i < len0 := by simpa using hi
      have q := hT i hi'
      rw [Addr.add_lit] at q
      simpa using q
end
end Go.Proofs.Ytomfhbngpikjeaa
