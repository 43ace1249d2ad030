/- Decode of every text: the law's walk. -/
import Derived.Test.YtahnpbgbekbfhaaRf11
namespace Go.Proofs.Ytahnpbgbekbfhaa.orderDecodes
open Go.RowKit

theorem dec_len (l : List Nat) (h : All8 l) : (decRes l).1.length ≤ 64 ∧ ((decRes l).2 = 0 ∨ (decRes l).2 = 41) := by
  unfold decRes
  cases hd : decF 64 l with
  | none => exact ⟨by simp, .inr rfl⟩
  | some ys => exact ⟨(decF_form 64 l ys h hd).2.1, .inl rfl⟩

set_option maxRecDepth 100000 in
set_option maxHeartbeats 1000000 in
theorem walk (s : ByteArray) (w : World) (hl : s.size ≤ 140737488351232) :
    Calls Try.prog 8 #[.string s] w fun e w' => e = .returned (.bool true) ∧ Below w.heap.size w w' := by
  have h1 := decode_any s w hl
  have h2 := fun w => rdecode_any s w hl
  obtain ⟨hdl, hdc⟩ := dec_len _ (strNat_all s)
  generalize decRes (strNat s) = R at *
  obtain ⟨ys, c⟩ := R
  simp only at h1 h2 hdl hdc
  go_enter Try.func8, Try.ntmps8
  go_wp2_with fail
  refine h1.mono ?_
  rintro e w1 ⟨v1, rfl, hown1, hb1⟩
  go_wp2_with fail
  refine (h2 _).mono ?_
  rintro e w2 ⟨v2, rfl, hown2, hb2⟩
  have hown1' := hown1.below hb2
  have hbw := hb1.trans (hb2.mono hb1.size)
  obtain ⟨a1, c1, rfl, hr1, _, _⟩ := hown1'.row
  obtain ⟨a2, c2, rfl, hr2, _, _⟩ := hown2.row
  have hal := allAlike_same a1 a2 c1 c2 ys w2 hr1 hr2 (by omega)
  clear h1 h2 hown1 hown2 hown1' hb1 hb2 hr1 hr2
  rcases hdc with rfl | rfl
  all_goals (
    go_wp2_with fail
    refine hal.mono ?_
    rintro e w3 ⟨rfl, hb3⟩
    have hbw3 := hbw.trans (hb3.mono hbw.size)
    go_wp2_with fail
    refine (awake_any _).mono ?_
    rintro e w4 ⟨rfl, hb4⟩
    have hbw4 := hbw3.trans (hb4.mono hbw3.size)
    go_wp2_with fail
    go_ret
    exact ⟨rfl, hbw4⟩)

end Go.Proofs.Ytahnpbgbekbfhaa.orderDecodes
