/- The statement about LabelLeaves, proved: for every input the law answers true and leaves its arguments as they were. -/
import Derived.Test.YtoindigckfajlabLabelLeavesW
import Derived.Test.YtoindigckfajlabOpenC
namespace Go.Proofs.Ytoindigckfajlab.labelLeaves
open Go.ChangeShapes Go.WideShapes Go.ChangeAt Go.RowKit Go.Joins Go.Deep

theorem slice_bound {H : Type} {enc : TypeId × Value → H} {W : World} {t e : TypeId} {fuel B : Nat} {v : Value} {d : DataW H} {p : List MemPlace} (ht : Try.prog.underlying t = some (.slice e)) (hf : DataW.trod enc Try.prog W 0 (fun _ => true) true fuel t [v] = some (d, p)) (hB : Try.prog.bytesOf e = B)
    (hsz : ∀ el sp, d = .slice el sp → (el.length + sp.length) * Try.prog.bytesOf e ≤ reachBytes) : ∀ b n cb, v = .slice b n cb → n * B ≤ 140737488351232 ∧ (b = none → n = 0 ∧ cb = 0) := by
  intro b n cb hv
  subst hv
  rcases open_slice ht hf with ⟨hcs, _⟩ | ⟨a, len, cap, m, q, D, Pl, hcs, _, hl, _, hm, hx, _⟩
  · simp at hcs
    obtain ⟨rfl, rfl, rfl⟩ := hcs
    exact ⟨by omega, fun _ => ⟨rfl, rfl⟩⟩
  · simp at hcs
    obtain ⟨rfl, rfl, rfl⟩ := hcs
    have hd := congrArg Prod.fst hx
    have hb := hsz _ _ hd
    rw [hB] at hb
    simp at hb
    refine ⟨?_, fun e => by cases e⟩
    have h1 : n * B ≤ (n + (m - n)) * B := Nat.mul_le_mul_right B (by omega)
    unfold reachBytes at hb
    omega

set_option maxRecDepth 100000 in
theorem lifted (os : Os) (started : os.Started) (H : Type) (enc : TypeId × Value → H) :
    ReturnsInHanded {} Try.checked os 4 .any (Rows.labelLeavesSpec.pre6 enc Try.prog Try.f4 Rows.labelLeavesRow.domain false) (Rows.labelLeavesSpec.post enc Try.prog Try.f4 false true false false) := by
  refine returnsInHanded_of_change_sized (C := Try.checked) own started (by kernel_rfl) Try.func4
    (ChangeSpec.witness6 (enc := enc) (C := Try.checked) false ⟨#[], #[.agg #[.slice none 0 0, .slice none 0 0, .slice none 0 0], .int .u64 0], []⟩ 8 (by kernel_rfl) (by kernel_rfl) (by kernel_rfl) (by kernel_rfl)) ?_
  intro W base args ds gs before hval0 hW _ hsz0 _
  have hsz : (DataW.weightsEach Try.prog (Try.f4.params.toList ++ Rows.labelLeavesSpec.plain.varTypes Try.prog) (ds ++ gs)).all (· ≤ reachBytes) = true := hsz0
  clear hsz0
  have hval : ∀ (j : Nat) t v, Try.f4.params[j]? = some t → args[j]? = some v → Value.okWide Try.prog W .any base t v := hval0
  have hW' := hW
  obtain ⟨p, q, hA0, hV, rfl, _, _⟩ := hW
  have hA : DataW.TrodAll enc Try.prog W 0 (fun _ => true) true Try.f4.params.toList args.toList ds p := hA0
  rw [Try.params4] at hA hval hsz
  obtain ⟨v0, vs0, d0, ds0, p0, q0, hargs, rfl, rfl, h0, r0⟩ := trodAll_cons hA
  obtain ⟨v1, vs1, d1, ds1, p1, q1, rfl, rfl, rfl, h1, r1⟩ := trodAll_cons r0
  obtain ⟨rfl, rfl, rfl⟩ := trodAll_nil r1
  obtain rfl : args = #[v0, v1] := by cases args; simp_all
  obtain ⟨rfl, rfl⟩ := trodVars_none hV
  have k0 := h0
  have lt0 : ∀ x ∈ p0, x.block < W.heap.size := by obtain ⟨m, hm⟩ := k0; exact DataW.trod_lt m _ _ _ hm
  obtain ⟨l1, rfl, rfl, rfl, w1⟩ := open_int Try.underlying36 (hval 1 36 v1 rfl rfl) h1
  obtain ⟨n1, rfl, m1⟩ := nat_of_u64 w1
  obtain ⟨u0, u1, u2, y0, y1, y2, m, rfl, hd0, hp0, t0, t1, t2⟩ := open_agg3 Try.underlying44 (by kernel_rfl) cellsC (hval 0 44 v0 rfl rfl) h0
  have hs := sized_parts hsz (j := 0) (parts := [y0.1, y1.1, y2.1]) rfl (by rw [hd0]; rfl) Try.underlying44
  obtain ⟨z0, q0'⟩ := y0
  obtain ⟨z1, q1'⟩ := y1
  obtain ⟨z2, q2'⟩ := y2
  have g0 : DataW.trod enc Try.prog W 0 (fun _ => true) true m 22 [u0] = some (z0, q0') := t0
  have g1 : DataW.trod enc Try.prog W 0 (fun _ => true) true m 41 [u1] = some (z1, q1') := t1
  have g2 : DataW.trod enc Try.prog W 0 (fun _ => true) true m 42 [u2] = some (z2, q2') := t2
  have e1 := slice_bound Try.underlying41 g1 bytesA (fun el sp e => by subst e; exact sized_slice hs (j := 1) rfl rfl Try.underlying41)
  have e2 := slice_bound Try.underlying42 g2 bytesI (fun el sp e => by subst e; exact sized_slice hs (j := 2) rfl rfl Try.underlying42)
  obtain ⟨b, n, cb, A, rfl, hAc, hAs⟩ := open_acc g1 (fun el sp e => by subst e; exact sized_slice hs (j := 1) rfl rfl Try.underlying41)
  obtain ⟨c, k, cc, S, rfl, hSc, hSs, hSn⟩ := open_ses g2 (fun el sp e => by subst e; exact sized_slice hs (j := 2) rfl rfl Try.underlying42)
  obtain ⟨a, ca, zs, rfl, hL⟩ := open_labelsC g0 (fun el sp e => by subst e; exact sized_slice hs (j := 0) rfl rfl Try.underlying22)
  clear hA0 hval0 m1
  refine (walk a b c ca cb cc n k zs A S n1 W ⟨hL, hAc, hAs, hSc, hSs, hSn⟩ (e1 b n cb rfl).2 (e1 b n cb rfl).1 (e2 c k cc rfl).1).mono fun e W' ⟨he, bel⟩ => ?_
  subst he
  exact ⟨_, rfl, _, _, _, [], _, [], hW', trodAll_mk1 (shut_bool Try.underlying4 _), (trodAll_cons_mk (Below.trod laidOut (by kernel_rfl) (of_decide_eq_true (by kernel_rfl)) k0 bel lt0) (trodAll_cons_mk (shut_int Try.underlying36 w1) trodAll_mk0)), rfl, bel.frame _, fun h => by cases h⟩

theorem over : Rows.labelLeavesRow.holds Try.pinned (OpenSpec.ofChange Rows.labelLeavesSpec) :=
  OpenClaim.holds_of_wide 4 Try.f4 rfl rfl rfl rfl rfl rfl rfl ⟨rfl, rfl, rfl, rfl, rfl⟩ rfl rfl rfl rfl rfl (by kernel_rfl) Try.func4 (by kernel_rfl)
    (of_decide_eq_true (by kernel_rfl)) (by unfold Func.isWrapper; first | (rw [if_pos (by decide +kernel)]; kernel_rfl) | (rw [if_neg (by decide +kernel)]; exact ⟨rfl, rfl⟩))
    (fun os started H enc _ => lifted os started H enc)

end Go.Proofs.Ytoindigckfajlab.labelLeaves

namespace Go.Proofs.Ytoindigckfajlab
theorem labelLeaves_holds : Rows.LabelLeavesSaid := labelLeaves.over
#print axioms labelLeaves_holds
end Go.Proofs.Ytoindigckfajlab
