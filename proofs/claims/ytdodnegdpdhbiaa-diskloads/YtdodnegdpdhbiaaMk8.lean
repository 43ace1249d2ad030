/- What 'make' makes: rows of structs, all zero. -/
import Derived.Test.YtdodnegdpdhbiaaDk9
import Derived.Laws.MakeOwn
namespace Go.Proofs.Ytdodnegdpdhbiaa
open Go.RowKit

theorem made_at (Z : Array Value) (n z i j : Nat) (hz : Z.size = z) (hi : i < n) (hj : j < z) : (madeCells Z (n * z))[i * z + j]? = Z[j]? := by
  have h1 : i * z + j < n * z := by
    have := Nat.mul_le_mul_right z (show i + 1 ≤ n by omega)
    rw [Nat.add_mul, Nat.one_mul] at this
    omega
  have h2 : (i * z + j) % z = j := by rw [Nat.mul_comm, Nat.mul_add_mod, Nat.mod_eq_of_lt hj]
  unfold madeCells
  rw [Array.getElem?_map, Array.getElem?_range, if_pos h1, hz]
  simp only [Option.map_some, h2]
  rw [getElem!_pos Z j (by omega), Array.getElem?_eq_getElem (by omega)]
theorem infoSpan : (Try.prog.info? 33).map (fun i => (i.zero.map Value.cells, i.size, i.bytes)) = some (some #[.int .i64 0, .slice none 0 0], 2, 32) := by kernel_rfl
theorem infoPart : (Try.prog.info? 111).map (fun i => (i.zero.map Value.cells, i.size, i.bytes)) = some (some #[.pointer none, .int .i64 0, .int .i64 0, .int .u8 0, .int .i64 0], 5, 40) := by kernel_rfl
/-- 'make' of n structs. -/
theorem mk_any (t e : TypeId) (Z : Array Value) (z b : Nat) (ht : Try.prog.underlying t = some (.slice e)) (hi : (Try.prog.info? e).map (fun i => (i.zero.map Value.cells, i.size, i.bytes)) = some (some Z, z, b)) (n : Nat) (hb : b * n ≤ 281474976710656) (hn : n ≤ 281474976710656) (w : World) :
    (Instr.makeSlice t (.int .i64 (n : Int)) (.int .i64 (n : Int))).run Try.prog w = .ok (.slice (some ⟨w.heap.size, 0, none⟩) n n) (w.alloc (.cells (madeCells Z (n * z)) e)) := by
  cases h : Try.prog.info? e with
  | none => rw [h] at hi; cases hi
  | some i =>
    rw [h] at hi
    simp only [Option.map_some, Option.some.injEq, Prod.mk.injEq] at hi
    obtain ⟨h1, h2, h3⟩ := hi
    cases hz : i.zero with
    | none => rw [hz] at h1; cases h1
    | some zv =>
      rw [hz] at h1
      simp only [Option.map_some, Option.some.injEq] at h1
      have hbb : (i.bytes : Int) * (n : Int) ≤ 281474976710656 := by
        rw [h3]
        have : ((b * n : Nat) : Int) ≤ 281474976710656 := by omega
        rwa [Int.natCast_mul] at this
      have hr := run_make (P := Try.prog) w t e i zv ht h hz .i64 .i64 (n : Int) (n : Int) (by omega) (by omega) hbb (by omega)
      rw [Int.toNat_natCast, h1, h2] at hr
      exact hr

end Go.Proofs.Ytdodnegdpdhbiaa
