/- Prune, told by whether it takes links away. -/
import Derived.Test.YtncmnhomloanaabHn5
namespace Go.Proofs.Ytncmnhomloanaab
open Go.RowKit

/-- The links went to new memory. -/
structure Moved (w : World) (F : Nat → Prop) (p : Nat) (ys : List Lk) (w' : World) : Prop where
  hn : ∃ v', Hn w' (upto F w w') p v' ys ∧ ∀ j, v'.ownBlock = some j → w.heap.size ≤ j
  chg : Chg (fun j => j = p) w w'
theorem moved_to {W z : World} {F : Nat → Prop} {p : Nat} {v v' : Value} {xs : List Lk} (h : Hn W F p v xs) (s : Int) (ho : OwnS z W.heap.size 32 3 v' (pruL xs s).length (celL (pruL xs s))) (hc : Below W.heap.size W z) :
    Moved W F p (pruL xs s) (z.setCell ⟨p, 0, none⟩ v') := by
  obtain ⟨v'', hv⟩ := (prune_to h s ho hc).hn
  have hp' := (hc.block p h.lt).trans h.blk
  have e : v'' = v' := by
    have h1 := hv.blk
    rw [heap_setCell_same z p 0 _ _ v' hp'] at h1
    simpa using h1.symm
  subst e
  exact ⟨⟨_, hv, fun j hj => (ho.inside j hj).1⟩, (Chg.new hc).setCell _ _ fun _ => rfl⟩

set_option maxRecDepth 100000 in
set_option maxHeartbeats 2000000 in
theorem prune_cases {w : World} {F : Nat → Prop} {p : Nat} {v : Value} {xs : List Lk} (h : Hn w F p v xs) (hl : xs.length ≤ 4000000000000) (s : Int) :
    Calls Try.prog 9 #[.pointer (some ⟨p, 0, none⟩), .int .i64 s] w fun e w' => e = .returned (.int .i64 (pruN xs s : Int)) ∧ ((pruN xs s = 0 ∧ Below w.heap.size w w') ∨ Moved w F p (pruL xs s) w') := by
  have hup := upTo_any h hl s
  have hle := upN_le xs s
  have hpn : pruN xs s = upN xs s - 1 := rfl
  by_cases hJ : upN xs s < 2
  · have hw1 : IntKind.i64.wrap ((upN xs s : Int) - 1) = (upN xs s : Int) - 1 := i64_in (by omega) (by omega)
    have hlt : (upN xs s : Int) - 1 < 1 := by omega
    have HP : Hid (pruN xs s = 0 ∧ pruL xs s = xs) := by
      have e : pruN xs s = 0 := by omega
      exact ⟨e, by unfold pruL; rw [e]; rfl⟩
    have HH := hide_it h
    generalize (upN xs s : Int) = J at *
    clear h hpn hle hJ
    go_enter Try.func9, Try.ntmps9
    go_wp2_with (refine hup.mono ?_; rintro e w1 ⟨rfl, hb1⟩)
    have HB := hide_it hb1
    clear hup hb1
    go_wp2
    go_ret
    exact ⟨by rw [HP.out.1]; rfl, .inl ⟨HP.out.1, HB.out⟩⟩
  · obtain ⟨m, hm⟩ : ∃ m, upN xs s = m + 1 := ⟨upN xs s - 1, by omega⟩
    have hmp : pruN xs s = m := by omega
    have HM := hide_it hmp
    rw [hm] at hup
    have hwm : IntKind.i64.wrap (m : Int) = (m : Int) := i64_in (by omega) (by omega)
    have hm1 : ¬ (m : Int) < 1 := by omega
    have hml : m < xs.length := by omega
    obtain ⟨a, cap, ev, hrow, hcn, hcm, _, _⟩ := h.row
    obtain ⟨g, o, rfl, hg⟩ : ∃ g o, a = some ⟨g, o, none⟩ ∧ g < w.heap.size := by
      obtain ⟨b, o, e, hb, _⟩ := hrow.here hml
      exact ⟨b, o, e, hb⟩
    have hmc : ¬ cap = m := by omega
    have hmi : (m : Int) ≤ (xs.length : Int) := by omega
    have hmi2 : (m : Int) ≤ (cap : Int) := by omega
    have HH := hide_it h
    have c0 := h.cell.1
    have kp := h.blk
    have hplt := h.lt
    have hyl : (xs.drop m).length = xs.length - m := List.length_drop
    have hcl := fun z (hz : Below w.heap.size w z) => clone_any g (o + m * 3) (cap - m) (xs.drop m) z ((hrow.below hz).drop m) (by omega)
    rw [hyl] at hcl
    have HY := hide_it hyl
    subst ev
    clear h hrow hle hJ hpn hmp hm hyl hcm hl
    go_enter Try.func9, Try.ntmps9
    go_wp2_with fail
    refine hup.mono ?_
    rintro e w1 ⟨rfl, hb1⟩
    have hz1 := hb1.size
    have c1 := (hb1.cell (p := ⟨p, 0, none⟩) hplt).trans c0
    have hcl := hcl w1 hb1
    clear hup c0
    go_wp2_with fail
    refine hcl.mono ?_
    rintro e w2 ⟨⟨v', rfl, ho⟩, hb2⟩
    have hb12 := hb1.trans (hb2.mono hz1)
    have k2 := (hb12.block p hplt).trans kp
    have c2 : w2.cell? ⟨p, 0, none⟩ = some (.slice (some ⟨g, o, none⟩) xs.length cap) := cell_of_row _ _ _ _ _ _ k2
    have f2 : w2.frozen? ⟨p, 0, none⟩ = false := frozen_of_row _ _ _ _ _ k2
    have HE : Hid (pruL xs s = xs.drop m) := by unfold pruL; rw [HM.out]; exact hide_it rfl
    have HO : Hid (OwnS w2 w.heap.size 32 3 v' (pruL xs s).length (celL (pruL xs s))) := by
      rw [HE.out, HY.out]; exact hide_it (ho.mono hz1)
    obtain ⟨a2, cap2, ev2, _⟩ := own_row HO.out
    subst ev2
    have HT := moved_to HH.out s HO.out hb12
    rw [HE.out, HY.out] at HT ⊢
    replace HT := hide_it HT
    clear hcl ho HO hb1 hb2 hb12 k2 c1 kp
    go_wp2_with fail
    go_ret
    exact ⟨by rw [HM.out]; rfl, .inr (by rw [HE.out]; exact HT.out)⟩

end Go.Proofs.Ytncmnhomloanaab
