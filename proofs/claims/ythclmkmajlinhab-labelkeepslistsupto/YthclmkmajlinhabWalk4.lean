/- What the document's Place and Check answer, and the law's plain copy of labels as numbers. -/
import Derived.Test.YthclmkmajlinhabWalk2
import Derived.Test.YthclmkmajlinhabWalk3
import Derived.Deep.OwnRows
namespace Go.Proofs.Ythclmkmajlinhab
open Go.RowKit

set_option maxHeartbeats 400000 in
theorem rplace_any (a : Option Addr) (cap : Nat) (zs : List Nat) (x : Nat) (w : World) (hr : Row w a zs) (hl : zs.length ≤ maxLen) :
    Calls Try.prog 17 #[.slice a zs.length cap, .int .u64 (x : Int)] w fun e w' => e = .returned (.int .i64 (idx zs x)) ∧ w' = w := by
  unfold maxLen at hl
  go_enter Try.func17, Try.ntmps17
  go_wp2
  go_loop [5] (fun i => ∃ k : Nat, k ≤ zs.length ∧ i = .int .i64 k ∧ Hid (notIn zs x k)) (fun i => zs.length - (intOf i).toNat)
  case atStart => exact ⟨0, by omega, rfl, fun i hi => by omega⟩
  case round =>
    obtain ⟨k, hk, rfl, hto⟩ := hrel
    by_cases hlt : k < zs.length
    · obtain ⟨b, o, rfl, _, hc⟩ := hr.here hlt
      have hck := hc k hlt
      clear hr hc
      obtain ⟨z, hz⟩ : ∃ z, z = at0 zs k := ⟨_, rfl⟩
      have HZ : Hid (z = at0 zs k) := hz
      rw [← hz] at hck
      clear hz
      cases he : ((z : Int) == (x : Int))
      · go_wp2
        go_round
        case rel => exact ⟨k + 1, by omega, by go_num, notIn_succ hto (fun e => by have h2 := HZ.out; rw [← h2] at e; subst e; simp at he)⟩
        case measure => simp [intOf]; omega
      · go_wp2
        go_ret
        have e2 : at0 zs k = x := by have h2 := HZ.out; have := eq_of_beq he; omega
        rw [idx_found hto hlt e2]
        exact ⟨rfl, rfl⟩
    · go_wp2
      go_ret
      have he : k = zs.length := by omega
      subst he
      rw [idx_none hto]
      exact ⟨rfl, rfl⟩

theorem Row.of_rowIs {w : World} {g t : Nat} {zs : List Nat} (h : w.rowIs g t zs.length (fun j => .int .u64 ((at0 zs j : Nat) : Int))) : Row w (some ⟨g, 0, none⟩) zs :=
  .inr ⟨g, 0, rfl, h.lt, fun i hi => by rw [Nat.zero_add]; exact h.cell hi⟩

theorem info23 : (Try.prog.info? 35).map (fun i => (i.zero, i.size, i.bytes)) = some (some (.int .u64 0), 1, 8) := by kernel_rfl

set_option maxHeartbeats 400000 in
theorem plain_any (a : Option Addr) (cap : Nat) (zs : List Nat) (w : World) (hr : Row w a zs) (hl : 8 * zs.length ≤ 140737488355328) :
    Calls Try.prog 4 #[.slice a zs.length cap] w fun e w' => (∃ g, e = .returned (.slice (some ⟨g, 0, none⟩) zs.length zs.length) ∧ Row w' (some ⟨g, 0, none⟩) zs) ∧ Below w.heap.size w w' := by
  have hmk := run_make_row' (P := Try.prog) 23 35 (.int .u64 0) 8 Try.underlying23 info23 rfl .i64 .i64 zs.length (by omega) (by omega)
  have hl63 : (zs.length : Int) ≤ 9223372036854775807 := by omega
  go_enter Try.func4, Try.ntmps4
  go_wp2
  clear hmk
  go_loopw [4] (fun i wr => ∃ k : Nat, k ≤ zs.length ∧ i = .int .i64 k ∧ wr.rowIs w.heap.size 35 zs.length (fun j => if j < k then .int .u64 ((at0 zs j : Nat) : Int) else .int .u64 0) ∧ Below w.heap.size w wr) (fun i _ => zs.length - (intOf i).toNat)
  case atStart => exact ⟨0, by omega, rfl, (World.rowIs_made w _ _ _).congr (fun i _ => by simp), (Below.refl _ _).alloc (Nat.le_refl _) _⟩
  case round =>
    obtain ⟨k, hk, rfl, hrow, hbl⟩ := hrel
    by_cases hlt : k < zs.length
    · obtain ⟨b, o, rfl, hbw, hc⟩ := (hr.below hbl).here hlt
      have hck := hc k hlt
      clear hc
      have hcell := hrow.cell hlt
      have hfz := hrow.frozen k
      rw [if_neg (Nat.lt_irrefl _)] at hcell
      have HR : Hid (wr.rowIs w.heap.size 35 zs.length (fun j => if j < k then .int .u64 ((at0 zs j : Nat) : Int) else .int .u64 0)) := hrow
      clear hrow
      obtain ⟨z, hz⟩ : ∃ z, z = at0 zs k := ⟨_, rfl⟩
      have HZ : Hid (z = at0 zs k) := hz
      rw [← hz] at hck
      clear hz
      go_wp2
      go_roundw
      case rel =>
        refine ⟨k + 1, by omega, by go_num, ?_, hbl.setCell (Nat.le_refl _) _⟩
        refine (HR.out.set k _).congr (fun i _ => ?_)
        have hz := HZ.out
        by_cases e : i = k
        · subst e; rw [if_pos rfl, if_pos (by omega), hz]
        · rw [if_neg e]
          by_cases h2 : i < k
          · rw [if_pos h2, if_pos (by omega)]
          · rw [if_neg h2, if_neg (by omega)]
      case measure => simp [intOf]; omega
    · go_wp2
      go_ret
      have he : k = zs.length := by omega
      subst he
      exact ⟨⟨_, rfl, Row.of_rowIs (hrow.congr (fun i hi => by rw [if_pos hi]))⟩, hbl⟩

end Go.Proofs.Ythclmkmajlinhab
