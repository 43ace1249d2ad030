/- Opening a law's argument that is a list of calls of queues. -/
import Derived.Test.YtomfhbngpikjeaaOpenQ
import Derived.Test.YtomfhbngpikjeaaOpenW
import Derived.Test.YtomfhbngpikjeaaStpQ
import Derived.Lib.SmallJoins
import Derived.Deep.Slices
namespace Go.Proofs.Ytomfhbngpikjeaa
open Go.ChangeShapes Go.WideShapes Go.ChangeAt Go.RowKit Go.Joins Go.Deep

theorem cellsIntQ : Try.prog.cellsOf 3 = 1 := by kernel_rfl
theorem cellsStrQ : Try.prog.cellsOf 9 = 1 := by kernel_rfl
theorem cellsStp : Try.prog.cellsOf 38 = 2 := by kernel_rfl
theorem bytesStp : Try.prog.bytesOf 38 = 24 := by kernel_rfl

section
variable {H : Type} {enc : TypeId × Value → H} {W : World}

theorem one_cell {cs : List Value} {j : Nat} {v : Value} (h : (cs.drop j).take 1 = [v]) : cs[j]? = some v := by
  have h0 : ((cs.drop j).take 1)[0]? = some v := by rw [h]; rfl
  rw [List.getElem?_take_of_lt (by omega), List.getElem?_drop] at h0
  simpa using h0

/-- One call, told by its two cells. -/
def SpAt (cs : List Value) (t : Sp) : Prop := cs[0]? = some (.int .i64 t.k) ∧ cs[1]? = some (.string t.s)

set_option maxRecDepth 100000 in
theorem open_step {n : Nat} {cs : List Value} {x : DataW H × List MemPlace} (h : DataW.trod enc Try.prog W 0 (fun _ => true) true n 38 cs = some x) : ∃ t : Sp, SpAt cs t := by
  obtain ⟨xs, q, _, rfl, hl, hxl, hf⟩ := DataW.trod_struct Try.underlying38 h
  have hx2 : xs.length = 2 := hxl
  rw [cellsStp] at hl
  match xs, hx2 with
  | [y0, y1], _ =>
    have f0 : DataW.trod enc Try.prog W 0 (fun _ => true) true q 3 ((cs.drop 0).take (Try.prog.cellsOf 3)) = some y0 := hf 0 _ rfl
    have f1 : DataW.trod enc Try.prog W 0 (fun _ => true) true q 9 ((cs.drop 1).take (Try.prog.cellsOf 9)) = some y1 := hf 1 _ rfl
    rw [cellsIntQ] at f0
    rw [cellsStrQ] at f1
    obtain ⟨k, hk, _, _⟩ := DataW.trod_int Try.underlying3 f0
    obtain ⟨t, ht, _, _⟩ := DataW.trod_string Try.underlying9 f1
    exact ⟨⟨k, t⟩, one_cell hk, one_cell ht⟩

theorem open_steps5 {base : Nat} {v : Value} {d : DataW H} {p : List MemPlace} (hok : Value.okWide Try.prog W .any base 36 v) (h : DataW.Trod enc Try.prog W 0 (fun _ => true) true 36 v d p)
    (hb : Fits Try.prog 36 d) :
    ∃ (a : Option Addr) (n cap : Nat) (T : Nat → Sp), v = .slice a n cap ∧ CameT W a n T := by
  obtain ⟨a0, len0, cap0, rfl⟩ := okWide_slice Try.underlying36 hok
  obtain ⟨fuel, hf⟩ := h
  rcases open_slice Try.underlying36 hf with ⟨hcs, hx⟩ | ⟨a, len, cap, m, n, D, Pl, hcs, _, hl, _, hm, hx, hall⟩
  · simp [Value.cells] at hcs
    obtain ⟨rfl, rfl, rfl⟩ := hcs
    exact ⟨none, 0, 0, fun _ => ⟨0, .empty⟩, rfl, .inl rfl, by omega⟩
  · simp [Value.cells] at hcs
    obtain ⟨rfl, rfl, rfl⟩ := hcs
    have hd := congrArg Prod.fst hx
    simp only at hd
    subst hd
    have hmc : m = cap0 := by simpa using hm
    have hbl := fits_len hb Try.underlying36
    rw [bytesStp] at hbl
    simp at hbl
    unfold reachBytes at hbl
    rw [cellsStp] at hall
    have each : ∀ i, ∃ t : Sp, i < len0 → ∃ cs', W.cells? 0 (a.add (i * 2)) 2 = some cs' ∧ SpAt cs' t := fun i => by
      by_cases hi : i < len0
      · obtain ⟨cs', h1, h2⟩ := hall i (by omega)
        obtain ⟨t, ht⟩ := open_step h2
        exact ⟨t, fun _ => ⟨cs', h1, ht⟩⟩
      · exact ⟨⟨0, .empty⟩, fun h => absurd h hi⟩
    obtain ⟨T, hT⟩ : ∃ T : Nat → Sp, ∀ i, i < len0 → ∃ cs', W.cells? 0 (a.add (i * 2)) 2 = some cs' ∧ SpAt cs' (T i) := ⟨fun i => (each i).choose, fun i hi => (each i).choose_spec hi⟩
    clear each
    have hcell : ∀ i, i < len0 → W.cell? (a.add (i * 2)) = some (.int .i64 (T i).k) ∧ W.cell? (a.add (i * 2 + 1)) = some (.string (T i).s) := fun i hi => by
      obtain ⟨cs', h1, h3, h4⟩ := hT i hi
      obtain ⟨_, _, hc⟩ := World.cells?_some h1
      refine ⟨?_, ?_⟩
      · rw [← h3, ← hc 0 (by omega), add_add, Nat.add_zero]
      · rw [← h4, ← hc 1 (by omega), add_add]
    refine ⟨some a, len0, cap0, T, rfl, ?_, by omega⟩
    by_cases h0 : len0 = 0
    · exact .inl h0
    · obtain ⟨bk, off, spot⟩ := a
      have hspot : spot = none := by
        obtain ⟨q, _⟩ := hcell 0 (by omega)
        simpa [Addr.add] using World.cell?_spot q
      subst hspot
      refine .inr ⟨bk, off, rfl, ?_, fun i hi => ?_⟩
      · obtain ⟨q, _⟩ := hcell 0 (by omega)
        exact World.block_lt_of_cell? W _ q
      · obtain ⟨q0, q1⟩ := hcell i hi
        rw [Addr.add_lit] at q0 q1
        exact ⟨q0, by rw [Nat.add_assoc]; exact q1⟩
end
end Go.Proofs.Ytomfhbngpikjeaa
