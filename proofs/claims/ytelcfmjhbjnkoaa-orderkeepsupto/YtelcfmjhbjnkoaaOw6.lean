/- A text laid down by the program. -/
import Derived.Test.YtelcfmjhbjnkoaaOw5
namespace Go.Proofs.Ytelcfmjhbjnkoaa
open Go.RowKit

theorem str_at {s : ByteArray} {k : Nat} (h : k < s.size) (w : World) : (Instr.index 9 (.string s) (.int .i64 (k : Int))).run Try.prog w = .ok (.int .u8 ((at0 (strNat s) k : Nat) : Int)) w := by
  rw [run_index_string w _ _ _ _ Try.underlying9, dif_pos (by omega)]
  have h2 : k < (strNat s).length := by rw [strNat_len]; exact h
  rw [← at0_get h2]
  simp [strNat]
  rfl

theorem esc_snoc (l : List Nat) (z : Nat) : esc (l ++ [z]) = esc l ++ (if z = 0 then [0, 255] else [z]) := by simp [esc]
theorem esc_len (l : List Nat) : (esc l).length ≤ 2 * l.length := by
  induction l with
  | nil => simp [esc]
  | cons z l ih =>
    rw [esc_cons, List.length_append, List.length_cons]
    have : (if z = 0 then [0, 255] else [z] : List Nat).length ≤ 2 := by split <;> simp
    omega

set_option maxRecDepth 100000 in
set_option maxHeartbeats 400000 in
theorem appendText_any (v : Value) (t : ByteArray) (base : Nat) (zs : List Nat) (w : World) (hown : OwnB w base v zs) (hb : base ≤ w.heap.size) (hl : zs.length + 2 * t.size + 2 ≤ 140737488355328) :
    Calls Try.prog 34 #[v, .string t] w fun e w' => ∃ r, e = .returned r ∧ App w w' base v r (zs ++ (esc (strNat t) ++ [0, 1])) := by
  go_enter Try.func34, Try.ntmps34
  go_wp2_with fail
  go_loopw [0, 8] (fun r i wr => ∃ k : Nat, k ≤ t.size ∧ i = .int .i64 (k : Int) ∧ App w wr base v r (zs ++ esc ((strNat t).take k))) (fun _ i _ => t.size - (intOf i).toNat)
  case atStart => exact ⟨0, by omega, rfl, by simpa [esc] using hown, ⟨rfl, rfl, rfl, Nat.le_refl _, fun _ _ _ => rfl⟩, .inl rfl⟩
  case round =>
    obtain ⟨k, hk, rfl, hap⟩ := hrel
    have how := hap.own
    have hbs := Nat.le_trans hb hap.grown.size
    have hel := esc_len ((strNat t).take k)
    have htl : ((strNat t).take k).length ≤ k := by simp; omega
    have hlen : (zs ++ esc ((strNat t).take k)).length + 2 ≤ 140737488355328 := by rw [List.length_append]; omega
    have hlen2 : (zs ++ esc ((strNat t).take k)).length ≤ zs.length + 2 * k := by rw [List.length_append]; omega
    by_cases hlt : k < t.size
    · have hsn := take_snoc (bs := strNat t) (k := k) (by rw [strNat_len]; exact hlt)
      have hz8 : at0 (strNat t) k < 256 := (strNat_all t).at k
      have hix := str_at hlt
      have hes := esc_snoc ((strNat t).take k) (at0 (strNat t) k)
      rw [← hsn] at hes
      have HE := hide_it hes
      clear hsn hes
      generalize at0 (strNat t) k = z at *
      have hd1 : decide ((k : Int) < (t.size : Int)) = true := by simp; omega
      by_cases hz : z = 0
      · subst hz
        go_wp2_with (at_builtin; first | (refine wpList_append_byte _ rfl _ _ rfl base _ _ rfl how 0 rfl (by omega) hbs ?_; intro v4 w4 hown4 hg4 hat4; have hap4 := hap.trans (App.byte hown4 hg4 hat4); have hbs4 := Nat.le_trans hb hap4.grown.size; have how4 := hap4.own; have hlen4 : (zs ++ esc ((strNat t).take k) ++ [0]).length + 1 ≤ 140737488355328 := (by rw [List.length_append]; simp at hlen ⊢; omega); clear how hap hown4 hg4 hat4) | (refine wpList_append_byte _ rfl _ _ rfl base _ _ rfl how4 255 rfl (by omega) hbs4 ?_; intro v5 w5 hown5 hg5 hat5))
        go_roundw
        case rel =>
          refine ⟨k + 1, by omega, by go_num, ?_⟩
          have := hap4.trans (App.byte hown5 hg5 hat5)
          rw [HE.out]
          simpa using this
        case measure => simp [intOf]; omega
      · have hd : ((z : Int) == 0) = false := by simp; omega
        go_wp2_with (at_builtin; refine wpList_append_byte _ rfl _ _ rfl base _ _ rfl how z rfl (by omega) hbs ?_; intro v4 w4 hown4 hg4 hat4)
        go_roundw
        case rel =>
          refine ⟨k + 1, by omega, by go_num, ?_⟩
          have := hap.trans (App.byte hown4 hg4 hat4)
          rw [HE.out, if_neg hz]
          simpa using this
        case measure => simp [intOf]; omega
    · have hke : k = t.size := by omega
      have hd1 : decide ((k : Int) < (t.size : Int)) = false := by simp; omega
      have htk : (strNat t).take k = strNat t := List.take_of_length_le (by rw [strNat_len]; omega)
      have HT := hide_it htk
      clear htk
      have hrow := row_lit wr [0, 1]
      have how2 := how.below (w' := wr.alloc (.cells #[.int .u8 0, .int .u8 1] 5)) ((Below.refl _ _).alloc (Nat.le_refl _) _)
      go_wp2_with (at_builtin; refine wpList_append_row _ rfl _ _ rfl base _ _ rfl how2 (some ⟨wr.heap.size, 0, none⟩) 2 [0, 1] rfl hrow (fun e => by cases e) (by simp at hlen ⊢; omega) (by simp; omega) ?_; intro v4 w4 hown4 hg4 hat4)
      go_ret
      refine ⟨_, rfl, ?_⟩
      rw [← List.append_assoc, ← HT.out]
      exact hap.trans (App.byte hown4 hg4 (hat4.imp_right fun e => e.trans (by simp)))

end Go.Proofs.Ytelcfmjhbjnkoaa
