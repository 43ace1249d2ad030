/- Opening a law's argument that is a list of pairs. -/
import Derived.Test.YtomfhbngpikjeabOpenQ
import Derived.Test.YtomfhbngpikjeabOpenW
import Derived.Test.YtomfhbngpikjeabQuKd1
import Derived.Lib.SmallJoins
import Derived.Deep.Slices
namespace Go.Proofs.Ytomfhbngpikjeab
open Go.ChangeShapes Go.WideShapes Go.ChangeAt Go.RowKit Go.Joins Go.Deep

theorem cellsIntQ : Try.prog.cellsOf 3 = 1 := by kernel_rfl
theorem cellsBoolQ : Try.prog.cellsOf 4 = 1 := by kernel_rfl
theorem cellsPr : Try.prog.cellsOf 28 = 2 := by kernel_rfl
theorem bytesPr : Try.prog.bytesOf 28 = 16 := by kernel_rfl

section
variable {H : Type} {enc : TypeId × Value → H} {W : World}

theorem one_cell {cs : List Value} {j : Nat} {v : Value} (h : (cs.drop j).take 1 = [v]) : cs[j]? = some v := by
  have h0 : ((cs.drop j).take 1)[0]? = some v := by rw [h]; rfl
  rw [List.getElem?_take_of_lt (by omega), List.getElem?_drop] at h0
  simpa using h0

/-- One call, told by its two cells. -/
def PrAt (cs : List Value) (t : Int × Bool) : Prop := cs[0]? = some (.int .i64 t.1) ∧ cs[1]? = some (.bool t.2)

set_option maxRecDepth 100000 in
theorem open_pair5 {n : Nat} {cs : List Value} {x : DataW H × List MemPlace} (h : DataW.trod enc Try.prog W 0 (fun _ => true) true n 28 cs = some x) : ∃ t : Int × Bool, PrAt cs t := by
  obtain ⟨xs, q, _, rfl, hl, hxl, hf⟩ := DataW.trod_struct Try.underlying28 h
  have hx2 : xs.length = 2 := hxl
  rw [cellsPr] at hl
  match xs, hx2 with
  | [y0, y1], _ =>
    have f0 : DataW.trod enc Try.prog W 0 (fun _ => true) true q 3 ((cs.drop 0).take (Try.prog.cellsOf 3)) = some y0 := hf 0 _ rfl
    have f1 : DataW.trod enc Try.prog W 0 (fun _ => true) true q 4 ((cs.drop 1).take (Try.prog.cellsOf 4)) = some y1 := hf 1 _ rfl
    rw [cellsIntQ] at f0
    rw [cellsBoolQ] at f1
    obtain ⟨k, hk, _, _⟩ := DataW.trod_int Try.underlying3 f0
    obtain ⟨t, ht, _, _⟩ := DataW.trod_bool Try.underlying4 f1
    exact ⟨⟨k, t⟩, one_cell hk, one_cell ht⟩

theorem open_pairs5 {base : Nat} {v : Value} {d : DataW H} {p : List MemPlace} (hok : Value.okWide Try.prog W .any base 22 v) (h : DataW.Trod enc Try.prog W 0 (fun _ => true) true 22 v d p)
    (hb : Fits Try.prog 22 d) :
    ∃ (a : Option Addr) (n cap : Nat) (T : Nat → Int × Bool), v = .slice a n cap ∧ CamePr W a n T := by
  obtain ⟨a0, len0, cap0, rfl⟩ := okWide_slice Try.underlying22 hok
  obtain ⟨fuel, hf⟩ := h
  rcases open_slice Try.underlying22 hf with ⟨hcs, hx⟩ | ⟨a, len, cap, m, n, D, Pl, hcs, _, hl, _, hm, hx, hall⟩
  · simp [Value.cells] at hcs
    obtain ⟨rfl, rfl, rfl⟩ := hcs
    exact ⟨none, 0, 0, fun _ => (0, false), rfl, .inl rfl, by omega⟩
  · simp [Value.cells] at hcs
    obtain ⟨rfl, rfl, rfl⟩ := hcs
    have hd := congrArg Prod.fst hx
    simp only at hd
    subst hd
    have hmc : m = cap0 := by simpa using hm
    have hbl := fits_len hb Try.underlying22
    rw [bytesPr] at hbl
    simp at hbl
    unfold reachBytes at hbl
    rw [cellsPr] at hall
    have each : ∀ i, ∃ t : Int × Bool, i < len0 → ∃ cs', W.cells? 0 (a.add (i * 2)) 2 = some cs' ∧ PrAt cs' t := fun i => by
      by_cases hi : i < len0
      · obtain ⟨cs', h1, h2⟩ := hall i (by omega)
        obtain ⟨t, ht⟩ := open_pair5 h2
        exact ⟨t, fun _ => ⟨cs', h1, ht⟩⟩
      · exact ⟨(0, false), fun h => absurd h hi⟩
    obtain ⟨T, hT⟩ : ∃ T : Nat → Int × Bool, ∀ i, i < len0 → ∃ cs', W.cells? 0 (a.add (i * 2)) 2 = some cs' ∧ PrAt cs' (T i) := ⟨fun i => (each i).choose, fun i hi => (each i).choose_spec hi⟩
    clear each
    have hcell : ∀ i, i < len0 → W.cell? (a.add (i * 2)) = some (.int .i64 (T i).1) ∧ W.cell? (a.add (i * 2 + 1)) = some (.bool (T i).2) := fun i hi => by
      obtain ⟨cs', h1, h3, h4⟩ := hT i hi
      obtain ⟨_, _, hc⟩ := World.cells?_some h1
      refine ⟨?_, ?_⟩
      · rw [← h3, ← hc 0 (by omega), add_add, Nat.add_zero]
      · rw [← h4, ← hc 1 (by omega), add_add]
    refine ⟨some a, len0, cap0, T, rfl, ?_, by omega⟩
    by_cases h0 : len0 = 0
    · exact .inl h0
    · obtain ⟨bk, off, spot⟩ := a
      have hspot : spot = none := by
        obtain ⟨q, _⟩ := hcell 0 (by omega)
        simpa [Addr.add] using World.cell?_spot q
      subst hspot
      refine .inr ⟨bk, off, rfl, ?_, fun i hi => ?_⟩
      · obtain ⟨q, _⟩ := hcell 0 (by omega)
        exact World.block_lt_of_cell? W _ q
      · obtain ⟨q0, q1⟩ := hcell i hi
        rw [Addr.add_lit] at q0 q1
        exact ⟨q0, by rw [Nat.add_assoc]; exact q1⟩
end
end Go.Proofs.Ytomfhbngpikjeab
