/- The statement about OrderKeeps, proved where what comes in is of bulk at most 1048576: the law answers true and leaves its arguments as they were. -/
import Derived.Test.YtelcfmjhbjnkoaaOrderKeepsW
import Derived.Test.YtelcfmjhbjnkoaaOpenB
import Derived.Test.YtelcfmjhbjnkoaaOpenR
import Derived.Test.YtelcfmjhbjnkoaaBulk
import Derived.Deep.CondSized
namespace Go.Proofs.Ytelcfmjhbjnkoaa.orderKeeps
open Go.ChangeShapes Go.WideShapes Go.ChangeAt Go.RowKit
open Go.ChangeMaps (open_string shut_string)

set_option maxRecDepth 100000 in
theorem lifted (os : Os) (started : os.Started) (H : Type) (enc : TypeId × Value → H) (F : Stop.Interp) :
    ReturnsInHanded {} Try.checked os 3 .any ((Rows.OpenSpec.upto Rows.orderKeepsSpec).pre6 enc Try.prog Try.f3 Rows.orderKeepsUptoRow.domain false) (((Rows.OpenSpec.upto Rows.orderKeepsSpec).at F).post enc Try.prog Try.f3 false true false false) := by
  refine returnsInHanded_of_cond_sized (C := Try.checked) (s := Rows.OpenSpec.upto Rows.orderKeepsSpec) (k := Rows.uptoSmall) rfl own started (by kernel_rfl) Try.func3
    (OpenSpec.witness (enc := enc) (C := Try.checked) (s := Rows.OpenSpec.upto Rows.orderKeepsSpec) (k := Rows.uptoSmall) rfl false ⟨#[], #[.slice none 0 0, .string .empty, .string .empty], []⟩ 8 (by kernel_rfl) (by kernel_rfl) (by kernel_rfl)
      (x := ([.nil, .lit (.string []), .lit (.string [])], [], [])) (by kernel_rfl) rfl (by kernel_rfl)) ?_
  intro W base args ds gs before hval0 hW _ hk hsz0 _
  have hsz : (DataW.weightsEach Try.prog (Try.f3.params.toList ++ Rows.orderKeepsSpec.plain.varTypes Try.prog) (ds ++ gs)).all (· ≤ reachBytes) = true := hsz0
  clear hsz0
  have hval : ∀ (j : Nat) t v, Try.f3.params[j]? = some t → args[j]? = some v → Value.okWide Try.prog W .any base t v := hval0
  have hW' := hW
  obtain ⟨p, q, hA0, hV, rfl, _, _⟩ := hW
  have hA : DataW.TrodAll enc Try.prog W 0 (fun _ => true) true Try.f3.params.toList args.toList ds p := hA0
  rw [Try.params3] at hA hval hsz
  obtain ⟨v0, vs0, d0, ds0, p0, q0, hargs, rfl, rfl, h0, r0⟩ := trodAll_cons hA
  obtain ⟨v1, vs1, d1, ds1, p1, q1, rfl, rfl, rfl, h1, r1⟩ := trodAll_cons r0
  obtain ⟨v2, vs2, d2, ds2, p2, q2, rfl, rfl, rfl, h2, r2⟩ := trodAll_cons r1
  obtain ⟨rfl, rfl, rfl⟩ := trodAll_nil r2
  obtain rfl : args = #[v0, v1, v2] := by cases args; simp_all
  obtain ⟨rfl, rfl⟩ := trodVars_none hV
  have hkb : Rows.uptoBulkAll [d0, d1, d2] ≤ 1048576 := of_decide_eq_true hk
  have k0 := h0
  have lt0 : ∀ x ∈ p0, x.block < W.heap.size := by obtain ⟨m, hm⟩ := k0; exact DataW.trod_lt m _ _ _ hm
  obtain ⟨a0, c0, xs0, rfl, rw0, ln0, ok0⟩ := open_raws_upto (hval 0 22 v0 rfl rfl) h0 (Nat.le_trans (bulk_mem (by simp)) hkb)
  obtain ⟨s1, rfl, rfl, rfl, mx1⟩ := open_string Try.underlying9 (hval 1 9 v1 rfl rfl) h1
  have le1 : s1.data.toList.length = s1.size := by rw [Array.length_toList]; rfl
  have b1 : s1.size ≤ 1048576 := by
    have h1 := Nat.le_trans (bulk_mem (d := .lit (.string s1.data.toList)) (by simp)) hkb
    simp only [Rows.uptoBulk] at h1
    omega
  obtain ⟨s2, rfl, rfl, rfl, mx2⟩ := open_string Try.underlying9 (hval 2 9 v2 rfl rfl) h2
  have le2 : s2.data.toList.length = s2.size := by rw [Array.length_toList]; rfl
  have b2 : s2.size ≤ 1048576 := by
    have h1 := Nat.le_trans (bulk_mem (d := .lit (.string s2.data.toList)) (by simp)) hkb
    simp only [Rows.uptoBulk] at h1
    omega
  clear hA0 hval0
  refine (walk a0 c0 xs0 s1 s2 W rw0 ln0 ok0 b1 b2).mono fun e W' ⟨he, bel⟩ => ?_
  subst he
  exact ⟨_, rfl, _, _, _, [], _, [], hW', trodAll_mk1 (shut_bool Try.underlying4 _), (trodAll_cons_mk (Below.trod laidOut (by kernel_rfl) (of_decide_eq_true (by kernel_rfl)) k0 bel lt0) (trodAll_cons_mk (shut_string Try.underlying9 mx1) (trodAll_cons_mk (shut_string Try.underlying9 mx2) trodAll_mk0))), rfl, bel.frame _, fun h => by cases h⟩

theorem over : Rows.OrderKeepsUptoSaid :=
  OpenClaim.holds_of_cond 3 Try.f3 rfl rfl rfl rfl rfl rfl rfl ⟨rfl, rfl, rfl, rfl, rfl⟩ rfl rfl rfl rfl rfl (by kernel_rfl) Try.func3 (by kernel_rfl)
    (of_decide_eq_true (by kernel_rfl)) (by unfold Func.isWrapper; first | (rw [if_pos (by decide +kernel)]; kernel_rfl) | (rw [if_neg (by decide +kernel)]; exact ⟨rfl, rfl⟩))
    (fun os started H enc _ F => lifted os started H enc F)

end Go.Proofs.Ytelcfmjhbjnkoaa.orderKeeps

namespace Go.Proofs.Ytelcfmjhbjnkoaa
theorem orderKeeps_upto_holds : Rows.OrderKeepsUptoSaid := orderKeeps.over
#print axioms orderKeeps_upto_holds
end Go.Proofs.Ytelcfmjhbjnkoaa
