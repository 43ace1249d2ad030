/- A chain in memory: Prune. -/
import Derived.Test.YthaknohnccmfoaaHn4Y
import Derived.Lib.SliceRun
namespace Go.Proofs.Ythaknohnccmfoaa.kY
open Go.RowKit

theorem stopHere {p : Prop} (h : Hid p) : p := h

set_option maxRecDepth 100000 in
set_option maxHeartbeats 1000000 in
theorem clone_any (g o cap : Nat) (ys : List Lk) (w : World) (hr : RowL w (some ⟨g, o, none⟩) ys) (hl : ys.length ≤ 4000000000000) :
    Calls Try.prog 66 #[.slice (some ⟨g, o, none⟩) ys.length cap] w fun e w' => (∃ v', e = .returned v' ∧ OwnS w' w.heap.size 95 3 v' ys.length (celL ys)) ∧ Below w.heap.size w w' := by
  have hb1 : Below w.heap.size w (w.alloc (.cells #[] 95)) := (Below.refl _ _).alloc (Nat.le_refl _) _
  have ho1 : OwnS (w.alloc (.cells #[] 95)) w.heap.size 95 3 (.slice (some ⟨w.heap.size, 0, none⟩) 0 0) 0 [] :=
    ⟨by simp, .inr ⟨_, 0, _, _, rfl, Nat.le_refl _, heap_alloc_new w _, Nat.le_refl _, by unfold maxLen; omega, by simp, fun i hi => by cases hi⟩⟩
  have hs := src_row Try.underlying112 (cap := cap) (hr.below hb1) (fun e => by cases e)
  have hn1 := fun (w : World) (a : Option Addr) (n c : Nat) => Lib.run_eql_slice_nil (P := Try.prog) w 112 95 a n c 0 0 Try.underlying112
  obtain ⟨N, hN⟩ : ∃ N, N = ys.length := ⟨_, rfl⟩
  rw [← hN] at hs hl ⊢
  clear hN hr
  go_enter Try.func66, Try.ntmps66
  go_wp2_with (at_builtin; refine stopHere ?_)
  unfold Hid
  refine wpList_append_S rfl _ _ 112 112 rfl (.agg #[.int .i64 0, .slice none 0 0, .bool false]) Try.underlying112 infoL rfl rfl ho1 _ rfl N _ hs (by unfold maxLen; omega) (by omega) hb1.size ?_
  intro v' w1 ho hg hat
  have HO : Hid (OwnS w1 w.heap.size 95 3 v' N (celL ys)) := by unfold Hid; simpa using ho
  have HB : Hid (Below w.heap.size w w1) := hide_it (hb1.grown hg hb1.size fun j e => by cases e; exact Nat.le_refl _)
  clear ho hg hat hs hb1 ho1
  go_wp2
  go_ret
  exact ⟨⟨_, rfl, HO.out⟩, HB.out⟩

theorem prune_to {W z : World} {F : Nat → Prop} {p : Nat} {v v' : Value} {xs : List Lk} (h : Hn W F p v xs) (s : Int) (ho : OwnS z W.heap.size 95 3 v' (pruL xs s).length (celL (pruL xs s))) (hc : Below W.heap.size W z) :
    HnTo W F p v xs (pruL xs s) (z.setCell ⟨p, 0, none⟩ v') := by
  have hpv : ¬ v.ownBlock = some p := fun e => by
    obtain ⟨cur, h2⟩ := OwnS.type h.own e
    rw [h.blk] at h2; cases h2
  have hp' := (hc.block p h.lt).trans h.blk
  have off : ∀ j, j ≠ p → (z.setCell ⟨p, 0, none⟩ v').heap[j]? = z.heap[j]? := fun j hj => Below.heap_setCell _ _ _ j hj
  refine ⟨⟨v', heap_setCell_same z p 0 _ _ v' hp', ?_, h.good.prune s, .inl h.fp, fun j hj => ?_⟩, (Chg.new hc).setCell _ _ fun _ => h.fp, fun a c ea => ?_⟩
  · exact OwnS.keep (ho.mono (Nat.zero_le _)) fun j hj => off j fun ej => by have := (ho.inside j hj).1; have := h.lt; omega
  · have := ho.inside j hj
    exact .inr ⟨this.1, by simpa using this.2⟩
  · obtain ⟨a', c', e', hra, _, _, _, hob⟩ := h.row
    rw [ea] at e'; cases e'
    exact (hra.below hc).keep fun b o eb => off b fun ej => hpv (ej ▸ (hob b).2 ⟨o, eb⟩)

set_option maxRecDepth 100000 in
set_option maxHeartbeats 2000000 in
theorem prune_any {w : World} {F : Nat → Prop} {p : Nat} {v : Value} {xs : List Lk} (h : Hn w F p v xs) (hl : xs.length ≤ 4000000000000) (s : Int) :
    Calls Try.prog 49 #[.pointer (some ⟨p, 0, none⟩), .int .i64 s] w fun e w' => e = .returned (.int .i64 (pruN xs s : Int)) ∧ HnTo w F p v xs (pruL xs s) w' := by
  have hup := upTo_any h hl s
  have hle := upN_le xs s
  have hpn : pruN xs s = upN xs s - 1 := rfl
  by_cases hJ : upN xs s < 2
  · have hw1 : IntKind.i64.wrap ((upN xs s : Int) - 1) = (upN xs s : Int) - 1 := i64_in (by omega) (by omega)
    have hlt : (upN xs s : Int) - 1 < 1 := by omega
    have HP : Hid (pruN xs s = 0 ∧ pruL xs s = xs) := by
      have e : pruN xs s = 0 := by omega
      exact ⟨e, by unfold pruL; rw [e]; rfl⟩
    have HH := hide_it h
    generalize (upN xs s : Int) = J at *
    clear h hpn hle hJ
    go_enter Try.func49, Try.ntmps49
    go_wp2_with (refine hup.mono ?_; rintro e w1 ⟨rfl, hb1⟩)
    have HB := hide_it hb1
    clear hup hb1
    go_wp2
    go_ret
    exact ⟨by rw [HP.out.1]; rfl, by rw [HP.out.2]; exact HnTo.same HH.out HB.out⟩
  · obtain ⟨m, hm⟩ : ∃ m, upN xs s = m + 1 := ⟨upN xs s - 1, by omega⟩
    have hmp : pruN xs s = m := by omega
    have HM := hide_it hmp
    rw [hm] at hup
    have hwm : IntKind.i64.wrap (m : Int) = (m : Int) := i64_in (by omega) (by omega)
    have hm1 : ¬ (m : Int) < 1 := by omega
    have hml : m < xs.length := by omega
    obtain ⟨a, cap, ev, hrow, hcn, hcm, _, _⟩ := h.row
    obtain ⟨g, o, rfl, hg⟩ : ∃ g o, a = some ⟨g, o, none⟩ ∧ g < w.heap.size := by
      obtain ⟨b, o, e, hb, _⟩ := hrow.here hml
      exact ⟨b, o, e, hb⟩
    have hmc : ¬ cap = m := by omega
    have hmi : (m : Int) ≤ (xs.length : Int) := by omega
    have hmi2 : (m : Int) ≤ (cap : Int) := by omega
    have HH := hide_it h
    have c0 := h.cell.1
    have kp := h.blk
    have hplt := h.lt
    have hyl : (xs.drop m).length = xs.length - m := List.length_drop
    have hcl := fun z (hz : Below w.heap.size w z) => clone_any g (o + m * 3) (cap - m) (xs.drop m) z ((hrow.below hz).drop m) (by omega)
    rw [hyl] at hcl
    have HY := hide_it hyl
    subst ev
    clear h hrow hle hJ hpn hmp hm hyl hcm hl
    go_enter Try.func49, Try.ntmps49
    go_wp2_with fail
    refine hup.mono ?_
    rintro e w1 ⟨rfl, hb1⟩
    have hz1 := hb1.size
    have c1 := (hb1.cell (p := ⟨p, 0, none⟩) hplt).trans c0
    have hcl := hcl w1 hb1
    clear hup c0
    go_wp2_with fail
    refine hcl.mono ?_
    rintro e w2 ⟨⟨v', rfl, ho⟩, hb2⟩
    have hb12 := hb1.trans (hb2.mono hz1)
    have k2 := (hb12.block p hplt).trans kp
    have c2 : w2.cell? ⟨p, 0, none⟩ = some (.slice (some ⟨g, o, none⟩) xs.length cap) := cell_of_row _ _ _ _ _ _ k2
    have f2 : w2.frozen? ⟨p, 0, none⟩ = false := frozen_of_row _ _ _ _ _ k2
    have HE : Hid (pruL xs s = xs.drop m) := by unfold pruL; rw [HM.out]; exact hide_it rfl
    have HO : Hid (OwnS w2 w.heap.size 95 3 v' (pruL xs s).length (celL (pruL xs s))) := by
      rw [HE.out, HY.out]; exact hide_it (ho.mono hz1)
    obtain ⟨a2, cap2, ev2, _⟩ := own_row HO.out
    subst ev2
    have HT := prune_to HH.out s HO.out hb12
    rw [HE.out, HY.out] at HT ⊢
    replace HT := hide_it HT
    clear hcl ho HO hb1 hb2 hb12 k2 c1 kp
    go_wp2_with fail
    go_ret
    exact ⟨by rw [HM.out]; rfl, by rw [HE.out]; exact HT.out⟩

end Go.Proofs.Ythaknohnccmfoaa.kY
