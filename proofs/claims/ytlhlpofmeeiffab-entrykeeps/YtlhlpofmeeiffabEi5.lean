/- The document's Decode of all bytes. -/
import Derived.Test.YtlhlpofmeeiffabEi4
namespace Go.Proofs.Ytlhlpofmeeiffab
open Go.RowKit

set_option maxRecDepth 100000 in
set_option maxHeartbeats 400000 in
theorem rdecode_nil (a : Option Addr) (cap : Nat) (w : World) :
    Calls Try.prog 20 #[.slice a 0 cap] w fun e w' => DecTo w [] e w' := by
  have hend : ∀ w', Below w.heap.size w w' → DecTo w [] (.returned (.tuple #[.agg #[.int .i64 0, .int .i64 0, .int .i64 0, .string ⟨#[]⟩, .slice none 0 0, .bool false], .int .i64 100])) w' := fun w' h => ⟨⟨none, 0, rfl, World.ownsRow_nil _ _ _ _⟩, h⟩
  have hb := boxE_below w zeroEn none 0
  generalize DecTo w [] = Q at *
  go_enter Try.func20, Try.ntmps20
  go_wp2
  refine bodyPost_ret (v := .tuple #[.agg #[.int .i64 0, .int .i64 0, .int .i64 0, .string ⟨#[]⟩, .slice none 0 0, .bool false], .int .i64 100]) ?_ rfl (hend _ ?_)
  · simp [results, Try.results20, go_sem]
  · exact hb

theorem rdecode_any (a : Option Addr) (cap : Nat) (bs : List Nat) (w : World) (hr : RowB w a bs) (h8 : All8 bs) (hcap : bs.length ≤ cap) (hcm : cap ≤ maxLen) (hnil : a = none → bs.length = 0 ∧ cap = 0) (hl : bs.length ≤ 140737488355328) :
    Calls Try.prog 20 #[.slice a bs.length cap] w fun e w' => DecTo w bs e w' := by
  cases bs with
  | nil => exact rdecode_nil a cap w
  | cons k t =>
    by_cases h1 : k = 1
    · subst h1; exact rdecode_a 1 t a cap w rfl rfl rfl rfl rfl hr h8 hcap hcm hnil hl
    by_cases h2 : k = 2
    · subst h2; exact rdecode_b 2 t a cap w rfl rfl rfl rfl rfl hr h8 hcap hcm hnil hl
    by_cases h3 : k = 3
    · subst h3; exact rdecode_c 3 t a cap w rfl rfl rfl rfl rfl hr h8 hcap hcm hnil hl
    by_cases h4 : k = 4
    · subst h4; exact rdecode_c 4 t a cap w rfl rfl rfl rfl rfl hr h8 hcap hcm hnil hl
    by_cases h5 : k = 5
    · subst h5; exact rdecode_e 5 t a cap w rfl rfl rfl rfl rfl hr h8 hcap hcm hnil hl
    by_cases h6 : k = 6
    · subst h6; exact rdecode_c 6 t a cap w rfl rfl rfl rfl rfl hr h8 hcap hcm hnil hl
    have e1 : ((k : Int) == 1) = false := by rw [beq_eq_false_iff_ne]; omega
    have e2 : ((k : Int) == 2) = false := by rw [beq_eq_false_iff_ne]; omega
    have e3 : ((k : Int) == 3) = false := by rw [beq_eq_false_iff_ne]; omega
    have e4 : ((k : Int) == 4) = false := by rw [beq_eq_false_iff_ne]; omega
    have e5 : ((k : Int) == 5) = false := by rw [beq_eq_false_iff_ne]; omega
    have e6 : ((k : Int) == 6) = false := by rw [beq_eq_false_iff_ne]; omega
    exact rdecode_o k t a cap w (by unfold hk; rw [e1, e2, e5]; rfl) (by unfold hs; rw [e3, e4, e5, e6]; rfl) (by unfold hc; rw [e3, e4, e6]; rfl) e5 (by unfold hv; rw [e1, e5]; rfl) hr h8 hcap hcm hnil hl
end Go.Proofs.Ytlhlpofmeeiffab
