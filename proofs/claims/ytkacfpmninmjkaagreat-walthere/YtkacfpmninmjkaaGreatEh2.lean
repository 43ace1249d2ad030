/- The document's Check of every entry; its short form. -/
import Derived.Test.YtkacfpmninmjkaaGreatEhC
namespace Go.Proofs.YtkacfpmninmjkaaGreat
open Go.RowKit

theorem rcheck_any (x : En) (a : Option Addr) (cp : Nat) (w : World) :
    Calls Tryz.prog 50 #[valE x a cp] w fun e w' => e = .returned (.int .i64 ((chkE x : Nat) : Int)) ∧ Below w.heap.size w w' := by
  obtain ⟨kind, stamp, count, key, val, dead⟩ := x
  rcases kind_cases kind with rfl | rfl | rfl | rfl | rfl | rfl | h
  · exact rcheck_1 stamp count key val dead a cp w
  · exact rcheck_2 stamp count key val dead a cp w
  · exact rcheck_3 stamp count key val dead a cp w
  · exact rcheck_4 stamp count key val dead a cp w
  · exact rcheck_5 stamp count key val dead a cp w
  · exact rcheck_6 stamp count key val dead a cp w
  · exact rcheck_0 kind stamp count key val dead a cp w h

set_option maxRecDepth 100000 in
set_option maxHeartbeats 400000 in
theorem rshort_any (v : Value) (n : Nat) (base : Nat) (zs : List Nat) (w : World) (hn : n ≤ 9223372036854775807) (hown : OwnB w base v zs) (hb : base ≤ w.heap.size) (hl : zs.length + 10 ≤ 140737488355328) :
    Calls Tryz.prog 115 #[v, .int .i64 (n : Int)] w fun e w' => (∃ r, e = .returned r ∧ OwnB w' base r (zs ++ shortL (2 * n))) ∧ Below base w w' := by
  have hf64 : W64 (2 * n) := by unfold W64; omega
  have e1 : IntKind.u64.wrap (n : Int) = (n : Int) := by simp [IntKind.wrap, IntKind.bits, IntKind.signed]; omega
  have e2 : IntKind.u64.wrap (2 * (n : Int)) = ((2 * n : Nat) : Int) := by simp [IntKind.wrap, IntKind.bits, IntKind.signed]; omega
  go_enter Tryz.func115, Tryz.ntmps115
  go_wp2_with fail
  go_loopw [0, 5] (fun r x wr => ∃ (k : Nat) (pre : List Nat), x = .int .u64 (k : Int) ∧ W64 k ∧ OwnB wr base r (zs ++ pre) ∧ Hid (pre ++ shortL k = shortL (2 * n)) ∧ Below base w wr) (fun _ x _ => (intOf x).toNat)
  case atStart => exact ⟨2 * n, [], by simp, hf64, by simpa using hown, rfl, Below.refl _ _⟩
  case round =>
    obtain ⟨k, pre, rfl, hk, how, hpre, hbl⟩ := hrel
    clear hown e1 e2
    have hbs := Nat.le_trans hb hbl.size
    have hlen : (zs ++ pre).length + 1 ≤ zs.length + 10 := by
      have h10 := shortL_ten hf64
      have e := congrArg List.length hpre.out
      have hp : 1 ≤ (shortL k).length := by by_cases h : k < 128 <;> simp [shortL_low, shortL_high, h]
      simp at e ⊢; omega
    unfold W64 at hk
    by_cases hlt : k < 128
    · obtain ⟨z, hz⟩ : ∃ z, z = k % 256 := ⟨_, rfl⟩
      have hw8 : IntKind.u8.wrap (k : Int) = (z : Int) := by rw [hz]; exact wrap_byte k
      have hz8 : z < 256 := by omega
      have hd : decide ((128 : Int) ≤ (k : Int)) = false := by simp; omega
      have hlt1 : ¬ (128 : Int) ≤ (k : Int) := by omega
      have hzk : Hid (z = k) := by unfold Hid; omega
      clear hz
      go_wp2_with (at_builtin; refine wpList_append_byte _ rfl _ _ rfl base _ _ rfl how z rfl (by omega) hbs ?_; intro v4 w4 hown4 hg4 hat4)
      go_ret
      refine ⟨⟨_, rfl, ?_⟩, (hbl.alloc hbs _).grown hg4 (by simp; omega) (fun j e => how.ge e)⟩
      rw [← hpre.out, shortL_low hlt, ← List.append_assoc, ← hzk.out]
      exact hown4
    · have hd : decide ((128 : Int) ≤ (k : Int)) = true := by simp; omega
      obtain ⟨y, hy⟩ : ∃ y, y = k % 128 + 128 := ⟨_, rfl⟩
      have hyk : Hid (y = k % 128 + 128) := hy
      have hwy : IntKind.u8.wrap ((k : Int) % 128 + 128) = (y : Int) := by
        have : (k : Int) % 128 + 128 = ((k % 128 + 128 : Nat) : Int) := by omega
        rw [this, wrap_byte, hy]
        have : (k % 128 + 128) % 256 = k % 128 + 128 := by omega
        rw [this]
      have hwu : IntKind.u64.wrap ((k : Int) % 128 + 128) = (k : Int) % 128 + 128 := by simp [IntKind.wrap, IntKind.bits, IntKind.signed]; omega
      have hym : (k : Int).tmod 128 = (k : Int) % 128 := Int.tmod_eq_emod_of_nonneg (by omega)
      have hyd : (k : Int).tdiv 128 = (k : Int) / 128 := Int.tdiv_eq_ediv_of_nonneg (by omega)
      have HPRE : Hid (pre ++ [y] ++ shortL (k / 128) = shortL (2 * n)) := by
        unfold Hid
        rw [← hpre.out, shortL_high hlt, hyk.out]; simp
      clear hy hpre
      go_wp2_with (at_builtin; refine wpList_append_byte _ rfl _ _ rfl base _ _ rfl how y (by try rfl) (by omega) hbs ?_; intro v4 w4 hown4 hg4 hat4)
      go_roundw
      case rel =>
        exact ⟨k / 128, pre ++ [y], by simp, by unfold W64; omega, by rw [← List.append_assoc]; exact hown4, HPRE, (hbl.alloc hbs _).grown hg4 (by simp; omega) (fun j e => how.ge e)⟩
      case measure => simp [intOf]; omega
end Go.Proofs.YtkacfpmninmjkaaGreat
