/- Opening a law's argument that is a list of calls of a reader. -/
import Derived.Test.YtfhinodieghklabOpen8
import Derived.Test.YtfhinodieghklabRd10
import Derived.Lib.SmallJoins
import Derived.Deep.Slices
namespace Go.Proofs.Ytfhinodieghklab
open Go.ChangeShapes Go.WideShapes Go.ChangeAt Go.RowKit Go.Joins Go.Deep

/-- A number that an int holds. -/
def I64 (n : Int) : Prop := -9223372036854775808 ≤ n ∧ n ≤ 9223372036854775807
/-- A row of calls: the i-th has the parts A i 0 to A i 3. -/
def RowS (w : World) (a : Option Addr) (n : Nat) (A : Nat → Nat → Int) : Prop :=
  n = 0 ∨ ∃ b o, a = some ⟨b, o, none⟩ ∧ b < w.heap.size ∧ ∀ i, i < n → ∀ j, j < 4 → w.cell? ⟨b, o + i * 4 + j, none⟩ = some (.int .i64 (A i j))
theorem RowS.below {w w' : World} {a : Option Addr} {n : Nat} {A : Nat → Nat → Int} (h : RowS w a n A) (hb : Below w.heap.size w w') : RowS w' a n A := by
  rcases h with h | ⟨b, o, e, hlt, hc⟩
  · exact .inl h
  · exact .inr ⟨b, o, e, Nat.lt_of_lt_of_le hlt hb.size, fun i hi j hj => by rw [hb.cell (p := ⟨b, o + i * 4 + j, none⟩) hlt]; exact hc i hi j hj⟩
theorem RowS.here {w : World} {a : Option Addr} {n : Nat} {A : Nat → Nat → Int} (h : RowS w a n A) {i : Nat} (hi : i < n) :
    ∃ b o, a = some ⟨b, o, none⟩ ∧ b < w.heap.size ∧ ∀ i, i < n → ∀ j, j < 4 → w.cell? ⟨b, o + i * 4 + j, none⟩ = some (.int .i64 (A i j)) := by
  rcases h with h | h
  · omega
  · exact h
/-- What a walk is told of a list of calls that came in. -/
structure CameS (w : World) (a : Option Addr) (n : Nat) (A : Nat → Nat → Int) : Prop where
  row : RowS w a n A
  size : n ≤ 140737488355328
  all : ∀ i j, I64 (A i j)

theorem cellsI : Try.prog.cellsOf 3 = 1 := by kernel_rfl
theorem bytesS : Try.prog.bytesOf 55 = 32 := by kernel_rfl
theorem cellsS : Try.prog.cellsOf 55 = 4 := by kernel_rfl

section
variable {H : Type} {enc : TypeId × Value → H} {W : World}

theorem one_int {n : Nat} {cs : List Value} {y : Option (DataW H × List MemPlace)} {j : Nat} (hj : DataW.trod enc Try.prog W 0 (fun _ => true) true n 3 ((cs.drop j).take (Try.prog.cellsOf 3)) = y) (hy : y.isSome = true) : ∃ m : Int, cs[j]? = some (.int .i64 m) ∧ I64 m := by
  rw [cellsI] at hj
  obtain ⟨x, rfl⟩ := Option.isSome_iff_exists.1 hy
  obtain ⟨m, hm, _, hw⟩ := DataW.trod_int Try.underlying3 hj
  refine ⟨m, ?_, bounds_i64 hw⟩
  have h0 : ((cs.drop j).take 1)[0]? = some (.int .i64 m) := by rw [hm]; rfl
  rw [List.getElem?_take_of_lt (by omega), List.getElem?_drop] at h0
  simpa using h0

set_option maxRecDepth 100000 in
theorem step_cells {n : Nat} {cs : List Value} {x : DataW H × List MemPlace} (h : DataW.trod enc Try.prog W 0 (fun _ => true) true n 55 cs = some x) : ∀ j, j < 4 → ∃ m : Int, cs[j]? = some (.int .i64 m) ∧ I64 m := by
  obtain ⟨xs, q, _, _, _, hxl, hf⟩ := DataW.trod_struct Try.underlying55 h
  have hx4 : xs.length = 4 := hxl
  intro j hj
  match j, hj with
  | 0, _ => exact one_int (hf 0 _ rfl) (by rw [List.getElem?_eq_getElem (by omega)]; rfl)
  | 1, _ => exact one_int (hf 1 _ rfl) (by rw [List.getElem?_eq_getElem (by omega)]; rfl)
  | 2, _ => exact one_int (hf 2 _ rfl) (by rw [List.getElem?_eq_getElem (by omega)]; rfl)
  | 3, _ => exact one_int (hf 3 _ rfl) (by rw [List.getElem?_eq_getElem (by omega)]; rfl)

theorem open_steps {base : Nat} {v : Value} {d : DataW H} {p : List MemPlace} (hok : Value.okWide Try.prog W .any base 52 v) (h : DataW.Trod enc Try.prog W 0 (fun _ => true) true 52 v d p)
    (hsz : ∀ el sp, d = .slice el sp → (el.length + sp.length) * Try.prog.bytesOf 55 ≤ reachBytes) :
    ∃ (a : Option Addr) (n cap : Nat) (A : Nat → Nat → Int), v = .slice a n cap ∧ CameS W a n A := by
  obtain ⟨a0, len0, cap0, rfl⟩ := okWide_slice Try.underlying52 hok
  obtain ⟨fuel, hf⟩ := h
  rcases open_slice Try.underlying52 hf with ⟨hcs, hx⟩ | ⟨a, len, cap, m, n, D, Pl, hcs, _, hl, _, hm, hx, hall⟩
  · simp [Value.cells] at hcs
    obtain ⟨rfl, rfl, rfl⟩ := hcs
    exact ⟨none, 0, 0, fun _ _ => 0, rfl, .inl rfl, by omega, fun _ _ => ⟨by omega, by omega⟩⟩
  · simp [Value.cells] at hcs
    obtain ⟨rfl, rfl, rfl⟩ := hcs
    have hd := congrArg Prod.fst hx
    have hb := hsz _ _ hd
    rw [bytesS] at hb
    simp at hb
    have hmc : m = cap0 := by simpa using hm
    have hb2 : len0 ≤ 140737488355328 := by unfold reachBytes at hb; omega
    rw [cellsS] at hall
    have each : ∀ i, i < len0 → ∀ j, j < 4 → ∃ q : Int, W.cell? (a.add (i * 4 + j)) = some (.int .i64 q) ∧ I64 q := fun i hi j hj => by
      obtain ⟨cs', h1, h2⟩ := hall i (by omega)
      obtain ⟨_, _, hc⟩ := World.cells?_some h1
      obtain ⟨q, hq, hi⟩ := step_cells h2 j hj
      refine ⟨q, ?_, hi⟩
      rw [← hq, ← hc j hj, add_add]
    refine ⟨some a, len0, cap0, fun i j => if i < len0 ∧ j < 4 then intOf ((W.cell? (a.add (i * 4 + j))).getD (.int .i64 0)) else 0, rfl, ?_, hb2, fun i j => ?_⟩
    · by_cases h0 : len0 = 0
      · exact .inl h0
      · obtain ⟨bk, off, spot⟩ := a
        have hspot : spot = none := by
          obtain ⟨q, hq, _⟩ := each 0 (by omega) 0 (by omega)
          simpa [Addr.add] using World.cell?_spot hq
        subst hspot
        refine .inr ⟨bk, off, rfl, ?_, fun i hi j hj => ?_⟩
        · obtain ⟨q, hq, _⟩ := each 0 (by omega) 0 (by omega)
          exact World.block_lt_of_cell? W _ hq
        · obtain ⟨q, hq, _⟩ := each i hi j hj
          have e : (⟨bk, off + i * 4 + j, none⟩ : Addr) = (⟨bk, off, none⟩ : Addr).add (i * 4 + j) := by rw [Addr.add_lit, Nat.add_assoc]
          simp only [e, hq, if_pos (And.intro hi hj)]
          rfl
    · by_cases hij : i < len0 ∧ j < 4
      · obtain ⟨q, hq, hi⟩ := each i hij.1 j hij.2
        simp only [if_pos hij, hq]
        exact hi
      · simp only [if_neg hij]
        exact ⟨by omega, by omega⟩

end
end Go.Proofs.Ytfhinodieghklab
