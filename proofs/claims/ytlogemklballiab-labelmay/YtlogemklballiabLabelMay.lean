/- The statement about LabelMay, proved: for every input the law answers true and leaves its arguments as they were. -/
import Derived.Test.YtlogemklballiabLabelMayW
import Derived.Test.YtlogemklballiabOpenC
namespace Go.Proofs.Ytlogemklballiab.labelMay
open Go.ChangeShapes Go.WideShapes Go.ChangeAt Go.RowKit Go.Joins

set_option maxRecDepth 100000 in
theorem lifted (os : Os) (started : os.Started) (H : Type) (enc : TypeId × Value → H) :
    ReturnsInHanded {} Try.checked os 5 .any (Rows.labelMaySpec.pre6 enc Try.prog Try.f5 Rows.labelMayRow.domain false) (Rows.labelMaySpec.post enc Try.prog Try.f5 false true false false) := by
  refine returnsInHanded_of_change_sized (C := Try.checked) own started (by kernel_rfl) Try.func5
    (ChangeSpec.witness6 (enc := enc) (C := Try.checked) false ⟨#[], #[.agg #[.slice none 0 0, .slice none 0 0, .slice none 0 0]], []⟩ 8 (by kernel_rfl) (by kernel_rfl) (by kernel_rfl) (by kernel_rfl)) ?_
  intro W base args ds gs before hval0 hW _ hsz0 _
  have hsz : (DataW.weightsEach Try.prog (Try.f5.params.toList ++ Rows.labelMaySpec.plain.varTypes Try.prog) (ds ++ gs)).all (· ≤ reachBytes) = true := hsz0
  clear hsz0
  have hval : ∀ (j : Nat) t v, Try.f5.params[j]? = some t → args[j]? = some v → Value.okWide Try.prog W .any base t v := hval0
  have hW' := hW
  obtain ⟨p, q, hA0, hV, rfl, _, _⟩ := hW
  have hA : DataW.TrodAll enc Try.prog W 0 (fun _ => true) true Try.f5.params.toList args.toList ds p := hA0
  rw [Try.params5] at hA hval hsz
  obtain ⟨v0, vs0, d0, ds0, p0, q0, hargs, rfl, rfl, h0, r0⟩ := trodAll_cons hA
  obtain ⟨rfl, rfl, rfl⟩ := trodAll_nil r0
  obtain rfl : args = #[v0] := by cases args; simp_all
  obtain ⟨rfl, rfl⟩ := trodVars_none hV
  have k0 := h0
  have lt0 : ∀ x ∈ p0, x.block < W.heap.size := by obtain ⟨m, hm⟩ := k0; exact DataW.trod_lt m _ _ _ hm
  obtain ⟨u0, u1, u2, y0, y1, y2, m, rfl, hd0, hp0, t0, t1, t2⟩ := open_agg3 Try.underlying41 (by kernel_rfl) cellsC (hval 0 41 v0 rfl rfl) h0
  have hs := sized_parts hsz (j := 0) (parts := [y0.1, y1.1, y2.1]) rfl (by rw [hd0]; rfl) Try.underlying41
  obtain ⟨z0, q0'⟩ := y0
  obtain ⟨z1, q1'⟩ := y1
  obtain ⟨z2, q2'⟩ := y2
  have g0 : DataW.trod enc Try.prog W 0 (fun _ => true) true m 22 [u0] = some (z0, q0') := t0
  have g1 : DataW.trod enc Try.prog W 0 (fun _ => true) true m 39 [u1] = some (z1, q1') := t1
  have g2 : DataW.trod enc Try.prog W 0 (fun _ => true) true m 24 [u2] = some (z2, q2') := t2
  obtain ⟨b, n, cb, A, rfl, hAc, hAs⟩ := open_acc g1 (fun el sp e => by subst e; exact sized_slice hs (j := 1) rfl rfl Try.underlying39)
  obtain ⟨c, k, cc, S, rfl, hSc, hSs, hSn⟩ := open_ses g2 (fun el sp e => by subst e; exact sized_slice hs (j := 2) rfl rfl Try.underlying24)
  obtain ⟨a, ca, zs, rfl, hL⟩ := open_labelsC g0 (fun el sp e => by subst e; exact sized_slice hs (j := 0) rfl rfl Try.underlying22)
  clear hA0 hval0
  refine (walk a b c ca cb cc n k zs A S W ⟨hL, hAc, hAs, hSc, hSs, hSn⟩).mono fun e W' ⟨he, bel⟩ => ?_
  subst he
  exact ⟨_, rfl, _, _, _, [], _, [], hW', trodAll_mk1 (shut_bool Try.underlying4 _), (trodAll_cons_mk (Below.trod laidOut (by kernel_rfl) (of_decide_eq_true (by kernel_rfl)) k0 bel lt0) trodAll_mk0), rfl, bel.frame _, fun h => by cases h⟩

theorem over : Rows.labelMayRow.holds Try.pinned (OpenSpec.ofChange Rows.labelMaySpec) :=
  OpenClaim.holds_of_wide 5 Try.f5 rfl rfl rfl rfl rfl rfl rfl ⟨rfl, rfl, rfl, rfl, rfl⟩ rfl rfl rfl rfl rfl (by kernel_rfl) Try.func5 (by kernel_rfl)
    (of_decide_eq_true (by kernel_rfl)) (by unfold Func.isWrapper; first | (rw [if_pos (by decide +kernel)]; kernel_rfl) | (rw [if_neg (by decide +kernel)]; exact ⟨rfl, rfl⟩))
    (fun os started H enc _ => lifted os started H enc)

end Go.Proofs.Ytlogemklballiab.labelMay

namespace Go.Proofs.Ytlogemklballiab
theorem labelMay_holds : Rows.LabelMaySaid := labelMay.over
#print axioms labelMay_holds
end Go.Proofs.Ytlogemklballiab
