/- What make makes of bytes: all zero, of the call's own. -/
import Derived.Test.YtadceolgekbgmabBt1
import Derived.Laws.MakeOwn
namespace Go.Proofs.Ytadceolgekbgmab
open Go.RowKit

theorem made_at (Z : Array Value) (n z i j : Nat) (hz : Z.size = z) (hi : i < n) (hj : j < z) : (madeCells Z (n * z))[i * z + j]? = Z[j]? := by
  have h1 : i * z + j < n * z := by
    have := Nat.mul_le_mul_right z (show i + 1 ≤ n by omega)
    rw [Nat.add_mul, Nat.one_mul] at this
    omega
  have h2 : (i * z + j) % z = j := by rw [Nat.mul_comm, Nat.mul_add_mod, Nat.mod_eq_of_lt hj]
  unfold madeCells
  rw [Array.getElem?_map, Array.getElem?_range, if_pos h1, hz]
  simp only [Option.map_some, h2]
  rw [getElem!_pos Z j (by omega), Array.getElem?_eq_getElem (by omega)]

/-- 'make' of n structs. -/
theorem mk_any (t e : TypeId) (Z : Array Value) (z b : Nat) (ht : Try.prog.underlying t = some (.slice e)) (hi : (Try.prog.info? e).map (fun i => (i.zero.map Value.cells, i.size, i.bytes)) = some (some Z, z, b)) (n : Nat) (hb : b * n ≤ 281474976710656) (hn : n ≤ 281474976710656) (w : World) :
    (Instr.makeSlice t (.int .i64 (n : Int)) (.int .i64 (n : Int))).run Try.prog w = .ok (.slice (some ⟨w.heap.size, 0, none⟩) n n) (w.alloc (.cells (madeCells Z (n * z)) e)) := by
  cases h : Try.prog.info? e with
  | none => rw [h] at hi; cases hi
  | some i =>
    rw [h] at hi
    simp only [Option.map_some, Option.some.injEq, Prod.mk.injEq] at hi
    obtain ⟨h1, h2, h3⟩ := hi
    cases hz : i.zero with
    | none => rw [hz] at h1; cases h1
    | some zv =>
      rw [hz] at h1
      simp only [Option.map_some, Option.some.injEq] at h1
      have hbb : (i.bytes : Int) * (n : Int) ≤ 281474976710656 := by
        rw [h3]
        have : ((b * n : Nat) : Int) ≤ 281474976710656 := by omega
        rwa [Int.natCast_mul] at this
      have hr := run_make (P := Try.prog) w t e i zv ht h hz .i64 .i64 (n : Int) (n : Int) (by omega) (by omega) hbb (by omega)
      rw [Int.toNat_natCast, h1, h2] at hr
      exact hr

theorem infoM8 : (Try.prog.info? 5).map (fun i => (i.zero.map Value.cells, i.size, i.bytes)) = some (some #[.int .u8 0], 1, 1) := by kernel_rfl

theorem mk8_any (n : Nat) (hn : n ≤ 140737488355328) (w : World) :
    (Instr.makeSlice 22 (.int .i64 (n : Int)) (.int .i64 (n : Int))).run Try.prog w = .ok (.slice (some ⟨w.heap.size, 0, none⟩) n n) (w.alloc (.cells (madeCells #[.int .u8 0] n) 5)) := by
  have h := mk_any 22 5 _ 1 1 Try.underlying22 infoM8 n (by omega) (by omega) w
  rwa [Nat.mul_one] at h

theorem made8 (n : Nat) : (madeCells #[.int .u8 0] n).toList = (List.replicate n 0).map encB := by
  apply List.ext_getElem?
  intro i
  by_cases hi : i < n
  · have h := made_at #[.int .u8 0] n 1 i 0 rfl hi (by omega)
    rw [Nat.mul_one, Nat.mul_one, Nat.add_zero] at h
    rw [Array.getElem?_toList, h]
    simp [hi, encB]
  · simp [madeCells, hi]

theorem own_made (n : Nat) (hn : n ≤ 140737488355328) (w : World) : OwnB (w.alloc (.cells (madeCells #[.int .u8 0] n) 5)) w.heap.size (.slice (some ⟨w.heap.size, 0, none⟩) n n) (List.replicate n 0) := by
  refine ⟨by simp, .inr ⟨_, n, _, by simp, Nat.le_refl _, heap_alloc_new w _, by simp, by unfold maxLen; omega, by simp [madeCells], ?_⟩⟩
  rw [made8]
  simp

end Go.Proofs.Ytadceolgekbgmab
