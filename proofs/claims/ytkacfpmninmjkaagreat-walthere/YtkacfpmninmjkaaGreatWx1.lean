/- What the laws of layer 11 use: fit, Alike. -/
import Derived.Test.YtkacfpmninmjkaaGreatWn1
import Derived.Test.YtkacfpmninmjkaaGreatEh2
import Derived.Test.YtkacfpmninmjkaaGreatReg2
import Derived.Maps.AppendAt
namespace Go.Proofs.YtkacfpmninmjkaaGreat
open Go.RowKit

theorem ownsRow_belowN {w w' : World} {base : Nat} {e : TypeId} {sz : Nat} {v : Value} {n : Nat} {xs : List Value} (h : w.ownsRow base e sz v n xs) (hb : Below w.heap.size w w') : w'.ownsRow base e sz v n xs := ownsRow_sameN h fun j hj => hb.block j (ownsRow_inN h hj).2.1
theorem Ets.mono {w : World} {F G : Nat → Prop} {a : Option Addr} {xs : List Ent} (h : Ets w F a xs) (hG : ∀ b, G b → F b) : Ets w G a xs := by
  refine ⟨?_, fun x hx => ⟨(h.each x hx).1, (h.each x hx).2.imp (fun e => e) fun h2 ad e hg => h2 ad e (hG _ hg)⟩⟩
  rcases h.row with h0 | ⟨b, o, e, hl, hF, hr⟩
  · exact .inl h0
  · exact .inr ⟨b, o, e, hl, fun hg => hF (hG _ hg), hr⟩
/-- What came in, in no block of F. -/
theorem CameEnt.ets {w : World} {a : Option Addr} {n : Nat} {A : Nat → Ent} {F : Nat → Prop} (h : CameEnt w a n A) (hF : ∀ b, F b → w.heap.size ≤ b) : Ets w F a ((List.range n).map A) := by
  refine ⟨?_, fun x hx => ?_⟩
  · rcases h.row with h0 | ⟨b, o, e, hl, hr⟩
    · exact .inl (by simpa using h0)
    · refine .inr ⟨b, o, e, hl, fun hx => by have := hF _ hx; omega, fun i x hi => ?_⟩
      rw [List.getElem?_map] at hi
      have hin : i < n := by
        by_cases hin : i < n
        · exact hin
        · rw [List.getElem?_eq_none (by simp; omega)] at hi; cases hi
      rw [List.getElem?_range hin] at hi
      cases hi
      obtain ⟨c0, c1, c2, c3, c4, c5⟩ := hr i hin
      exact ⟨c0, c1, c2, c3, c4, c5⟩
  · obtain ⟨i, hi, rfl⟩ := List.mem_map.1 hx
    have hin : i < n := by simpa using hi
    have hp := (h.each i hin).val
    refine ⟨hp, ?_⟩
    rcases hp.row with h0 | ⟨b, o, e, hl, _⟩
    · exact .inl h0
    · refine .inr fun ad e2 hx => ?_
      rw [e] at e2; cases e2
      have := hF _ hx
      simp only at this
      omega

set_option maxRecDepth 100000 in
set_option maxHeartbeats 800000 in
theorem alikeE_same (a b : Option Addr) (ca cb : Nat) (xs ys : List Ent) (w : World) (ha : Ets w (fun _ => False) a xs) (hb : Ets w (fun _ => False) b ys) (he : xs.map Ent.en = ys.map Ent.en) (hl : xs.length ≤ 140737488355328) :
    Calls Tryz.prog 25 #[.slice a xs.length ca, .slice b ys.length cb] w fun e w' => e = .returned (.bool true) ∧ Below w.heap.size w w' := by
  have hlen : ys.length = xs.length := by have := congrArg List.length he; simpa using this.symm
  have HE := hide_it he
  have HA := hide_it ha
  have HB := hide_it hb
  have HL := hide_it hlen
  rw [hlen]
  clear ha hb he hlen
  go_enter Tryz.func25, Tryz.ntmps25
  go_wp2_with fail
  go_loopw [13] (fun iv wr => ∃ k : Nat, k ≤ xs.length ∧ iv = .int .i64 (k : Int) ∧ Below w.heap.size w wr) (fun iv _ => xs.length - (intOf iv).toNat)
  case atStart => exact ⟨0, Nat.zero_le _, rfl, Below.refl _ _⟩
  case round =>
    obtain ⟨k, hk, rfl, hbw⟩ := hrel
    by_cases hlt : k < xs.length
    · have hd : decide ((k : Int) < (xs.length : Int)) = true := by simp; omega
      obtain ⟨x, hx⟩ : ∃ x, xs[k]? = some x := ⟨_, List.getElem?_eq_getElem hlt⟩
      obtain ⟨y, hy⟩ : ∃ y, ys[k]? = some y := ⟨_, List.getElem?_eq_getElem (by have := HL.out; omega)⟩
      have hxy : x.en = y.en := by
        have := congrArg (fun l => l[k]?) HE.out
        simp only [List.getElem?_map, hx, hy, Option.map_some] at this
        exact Option.some.inj this
      have hA := HA.out.below hbw
      have hB := HB.out.below hbw
      have px := (hA.each x (List.mem_of_getElem? hx)).1
      have py := (hB.each y (List.mem_of_getElem? hy)).1
      obtain ⟨b1, o1, rfl, l1, _, r1⟩ : ∃ b o, a = some ⟨b, o, none⟩ ∧ b < wr.heap.size ∧ ¬ False ∧ ∀ i x, xs[i]? = some x → Six wr b (o + i * 6) x := by
        rcases hA.row with h0 | h0
        · omega
        · exact h0
      obtain ⟨b2, o2, rfl, l2, _, r2⟩ : ∃ q o, b = some ⟨q, o, none⟩ ∧ q < wr.heap.size ∧ ¬ False ∧ ∀ i x, ys[i]? = some x → Six wr q (o + i * 6) x := by
        rcases hB.row with h0 | h0
        · have := HL.out; omega
        · exact h0
      obtain ⟨c0, c1, c2, c3, c4, c5⟩ := r1 k x hx
      obtain ⟨d0, d1, d2, d3, d4, d5⟩ := r2 k y hy
      obtain ⟨yk, yst, yct, ykey, ⟨ya, ycp, yp⟩, yd⟩ := y
      simp only [Ent.en, En.mk.injEq] at hxy
      obtain ⟨e1, e2, e3, e4, e5, e6⟩ := hxy
      simp only at e1 e2 e3 e4 e5 e6 d0 d1 d2 d3 d4 d5 py
      subst e1 e2 e3 e4 e5 e6
      have hsm := same_eq x.en x.val.a ya x.val.c ycp wr.drew (px.row.below (Below.refl _ _).drew) (py.row.below (Below.refl _ _).drew) px.none py.none
      have hs := hbw.size
      clear hA hB r1 r2 hx hy px py
      go_wp2_with fail
      refine wp_calm ?_
      refine wp_region_held_drew (S := (fun w' => Below wr.heap.size wr w')) (by kernel_rfl) ?_ (fun hHeld => ?_)
      · exact (Below.refl _ _).drew
      refine take_on (i := 0) (v := ?_) rfl rfl (by kernel_rfl) (by kernel_rfl) (by kernel_rfl) (fun _ _ _ h => h) rfl ?_ hHeld ?_
      rotate_left
      · (intro wq hSq; have q0 := (hSq.cell (p := ⟨b1, o1 + k * 6, none⟩) l1).trans c0; have q1 := (hSq.cell (p := ⟨b1, o1 + k * 6 + 1, none⟩) l1).trans c1; have q2 := (hSq.cell (p := ⟨b1, o1 + k * 6 + 2, none⟩) l1).trans c2; have q3 := (hSq.cell (p := ⟨b1, o1 + k * 6 + 3, none⟩) l1).trans c3; have q4 := (hSq.cell (p := ⟨b1, o1 + k * 6 + 4, none⟩) l1).trans c4; have q5 := (hSq.cell (p := ⟨b1, o1 + k * 6 + 5, none⟩) l1).trans c5; have p0 := (hSq.cell (p := ⟨b2, o2 + k * 6, none⟩) l2).trans d0; have p1 := (hSq.cell (p := ⟨b2, o2 + k * 6 + 1, none⟩) l2).trans d1; have p2 := (hSq.cell (p := ⟨b2, o2 + k * 6 + 2, none⟩) l2).trans d2; have p3 := (hSq.cell (p := ⟨b2, o2 + k * 6 + 3, none⟩) l2).trans d3; have p4 := (hSq.cell (p := ⟨b2, o2 + k * 6 + 4, none⟩) l2).trans d4; have p5 := (hSq.cell (p := ⟨b2, o2 + k * 6 + 5, none⟩) l2).trans d5; go_simp <;> first | with_reducible rfl | rfl)
      simp only [Act.put, List.setIfInBounds_toArray, List.set_cons_zero, List.set_cons_succ]
      refine take_on (i := 1) (v := ?_) rfl rfl (by kernel_rfl) (by kernel_rfl) (by kernel_rfl) (fun _ _ _ h => h) rfl ?_ hHeld ?_
      rotate_left
      · (intro wq hSq; have q0 := (hSq.cell (p := ⟨b1, o1 + k * 6, none⟩) l1).trans c0; have q1 := (hSq.cell (p := ⟨b1, o1 + k * 6 + 1, none⟩) l1).trans c1; have q2 := (hSq.cell (p := ⟨b1, o1 + k * 6 + 2, none⟩) l1).trans c2; have q3 := (hSq.cell (p := ⟨b1, o1 + k * 6 + 3, none⟩) l1).trans c3; have q4 := (hSq.cell (p := ⟨b1, o1 + k * 6 + 4, none⟩) l1).trans c4; have q5 := (hSq.cell (p := ⟨b1, o1 + k * 6 + 5, none⟩) l1).trans c5; have p0 := (hSq.cell (p := ⟨b2, o2 + k * 6, none⟩) l2).trans d0; have p1 := (hSq.cell (p := ⟨b2, o2 + k * 6 + 1, none⟩) l2).trans d1; have p2 := (hSq.cell (p := ⟨b2, o2 + k * 6 + 2, none⟩) l2).trans d2; have p3 := (hSq.cell (p := ⟨b2, o2 + k * 6 + 3, none⟩) l2).trans d3; have p4 := (hSq.cell (p := ⟨b2, o2 + k * 6 + 4, none⟩) l2).trans d4; have p5 := (hSq.cell (p := ⟨b2, o2 + k * 6 + 5, none⟩) l2).trans d5; go_simp <;> first | with_reducible rfl | rfl)
      simp only [Act.put, List.setIfInBounds_toArray, List.set_cons_zero, List.set_cons_succ]
      refine take_on (i := 2) (v := ?_) rfl rfl (by kernel_rfl) (by kernel_rfl) (by kernel_rfl) (fun _ _ _ h => h) rfl ?_ hHeld ?_
      rotate_left
      · (intro wq hSq; have q0 := (hSq.cell (p := ⟨b1, o1 + k * 6, none⟩) l1).trans c0; have q1 := (hSq.cell (p := ⟨b1, o1 + k * 6 + 1, none⟩) l1).trans c1; have q2 := (hSq.cell (p := ⟨b1, o1 + k * 6 + 2, none⟩) l1).trans c2; have q3 := (hSq.cell (p := ⟨b1, o1 + k * 6 + 3, none⟩) l1).trans c3; have q4 := (hSq.cell (p := ⟨b1, o1 + k * 6 + 4, none⟩) l1).trans c4; have q5 := (hSq.cell (p := ⟨b1, o1 + k * 6 + 5, none⟩) l1).trans c5; have p0 := (hSq.cell (p := ⟨b2, o2 + k * 6, none⟩) l2).trans d0; have p1 := (hSq.cell (p := ⟨b2, o2 + k * 6 + 1, none⟩) l2).trans d1; have p2 := (hSq.cell (p := ⟨b2, o2 + k * 6 + 2, none⟩) l2).trans d2; have p3 := (hSq.cell (p := ⟨b2, o2 + k * 6 + 3, none⟩) l2).trans d3; have p4 := (hSq.cell (p := ⟨b2, o2 + k * 6 + 4, none⟩) l2).trans d4; have p5 := (hSq.cell (p := ⟨b2, o2 + k * 6 + 5, none⟩) l2).trans d5; go_simp <;> first | with_reducible rfl | rfl)
      simp only [Act.put, List.setIfInBounds_toArray, List.set_cons_zero, List.set_cons_succ]
      refine take_on (i := 3) (v := ?_) rfl rfl (by kernel_rfl) (by kernel_rfl) (by kernel_rfl) (fun _ _ _ h => h) rfl ?_ hHeld ?_
      rotate_left
      · (intro wq hSq; have q0 := (hSq.cell (p := ⟨b1, o1 + k * 6, none⟩) l1).trans c0; have q1 := (hSq.cell (p := ⟨b1, o1 + k * 6 + 1, none⟩) l1).trans c1; have q2 := (hSq.cell (p := ⟨b1, o1 + k * 6 + 2, none⟩) l1).trans c2; have q3 := (hSq.cell (p := ⟨b1, o1 + k * 6 + 3, none⟩) l1).trans c3; have q4 := (hSq.cell (p := ⟨b1, o1 + k * 6 + 4, none⟩) l1).trans c4; have q5 := (hSq.cell (p := ⟨b1, o1 + k * 6 + 5, none⟩) l1).trans c5; have p0 := (hSq.cell (p := ⟨b2, o2 + k * 6, none⟩) l2).trans d0; have p1 := (hSq.cell (p := ⟨b2, o2 + k * 6 + 1, none⟩) l2).trans d1; have p2 := (hSq.cell (p := ⟨b2, o2 + k * 6 + 2, none⟩) l2).trans d2; have p3 := (hSq.cell (p := ⟨b2, o2 + k * 6 + 3, none⟩) l2).trans d3; have p4 := (hSq.cell (p := ⟨b2, o2 + k * 6 + 4, none⟩) l2).trans d4; have p5 := (hSq.cell (p := ⟨b2, o2 + k * 6 + 5, none⟩) l2).trans d5; go_simp <;> first | with_reducible rfl | rfl)
      simp only [Act.put, List.setIfInBounds_toArray, List.set_cons_zero, List.set_cons_succ]
      refine take_on (i := 4) (v := ?_) rfl rfl (by kernel_rfl) (by kernel_rfl) (by kernel_rfl) (fun _ _ _ h => h) rfl ?_ hHeld ?_
      rotate_left
      · (intro wq hSq; have q0 := (hSq.cell (p := ⟨b1, o1 + k * 6, none⟩) l1).trans c0; have q1 := (hSq.cell (p := ⟨b1, o1 + k * 6 + 1, none⟩) l1).trans c1; have q2 := (hSq.cell (p := ⟨b1, o1 + k * 6 + 2, none⟩) l1).trans c2; have q3 := (hSq.cell (p := ⟨b1, o1 + k * 6 + 3, none⟩) l1).trans c3; have q4 := (hSq.cell (p := ⟨b1, o1 + k * 6 + 4, none⟩) l1).trans c4; have q5 := (hSq.cell (p := ⟨b1, o1 + k * 6 + 5, none⟩) l1).trans c5; have p0 := (hSq.cell (p := ⟨b2, o2 + k * 6, none⟩) l2).trans d0; have p1 := (hSq.cell (p := ⟨b2, o2 + k * 6 + 1, none⟩) l2).trans d1; have p2 := (hSq.cell (p := ⟨b2, o2 + k * 6 + 2, none⟩) l2).trans d2; have p3 := (hSq.cell (p := ⟨b2, o2 + k * 6 + 3, none⟩) l2).trans d3; have p4 := (hSq.cell (p := ⟨b2, o2 + k * 6 + 4, none⟩) l2).trans d4; have p5 := (hSq.cell (p := ⟨b2, o2 + k * 6 + 5, none⟩) l2).trans d5; go_simp <;> first | with_reducible rfl | rfl)
      simp only [Act.put, List.setIfInBounds_toArray, List.set_cons_zero, List.set_cons_succ]
      refine take_on (i := 5) (v := ?_) rfl rfl (by kernel_rfl) (by kernel_rfl) (by kernel_rfl) (fun _ _ _ h => h) rfl ?_ hHeld ?_
      rotate_left
      · (intro wq hSq; have q0 := (hSq.cell (p := ⟨b1, o1 + k * 6, none⟩) l1).trans c0; have q1 := (hSq.cell (p := ⟨b1, o1 + k * 6 + 1, none⟩) l1).trans c1; have q2 := (hSq.cell (p := ⟨b1, o1 + k * 6 + 2, none⟩) l1).trans c2; have q3 := (hSq.cell (p := ⟨b1, o1 + k * 6 + 3, none⟩) l1).trans c3; have q4 := (hSq.cell (p := ⟨b1, o1 + k * 6 + 4, none⟩) l1).trans c4; have q5 := (hSq.cell (p := ⟨b1, o1 + k * 6 + 5, none⟩) l1).trans c5; have p0 := (hSq.cell (p := ⟨b2, o2 + k * 6, none⟩) l2).trans d0; have p1 := (hSq.cell (p := ⟨b2, o2 + k * 6 + 1, none⟩) l2).trans d1; have p2 := (hSq.cell (p := ⟨b2, o2 + k * 6 + 2, none⟩) l2).trans d2; have p3 := (hSq.cell (p := ⟨b2, o2 + k * 6 + 3, none⟩) l2).trans d3; have p4 := (hSq.cell (p := ⟨b2, o2 + k * 6 + 4, none⟩) l2).trans d4; have p5 := (hSq.cell (p := ⟨b2, o2 + k * 6 + 5, none⟩) l2).trans d5; go_simp <;> first | with_reducible rfl | rfl)
      simp only [Act.put, List.setIfInBounds_toArray, List.set_cons_zero, List.set_cons_succ]
      refine take_on (i := 6) (v := ?_) rfl rfl (by kernel_rfl) (by kernel_rfl) (by kernel_rfl) (fun _ _ _ h => h) rfl ?_ hHeld ?_
      rotate_left
      · (intro wq hSq; have q0 := (hSq.cell (p := ⟨b1, o1 + k * 6, none⟩) l1).trans c0; have q1 := (hSq.cell (p := ⟨b1, o1 + k * 6 + 1, none⟩) l1).trans c1; have q2 := (hSq.cell (p := ⟨b1, o1 + k * 6 + 2, none⟩) l1).trans c2; have q3 := (hSq.cell (p := ⟨b1, o1 + k * 6 + 3, none⟩) l1).trans c3; have q4 := (hSq.cell (p := ⟨b1, o1 + k * 6 + 4, none⟩) l1).trans c4; have q5 := (hSq.cell (p := ⟨b1, o1 + k * 6 + 5, none⟩) l1).trans c5; have p0 := (hSq.cell (p := ⟨b2, o2 + k * 6, none⟩) l2).trans d0; have p1 := (hSq.cell (p := ⟨b2, o2 + k * 6 + 1, none⟩) l2).trans d1; have p2 := (hSq.cell (p := ⟨b2, o2 + k * 6 + 2, none⟩) l2).trans d2; have p3 := (hSq.cell (p := ⟨b2, o2 + k * 6 + 3, none⟩) l2).trans d3; have p4 := (hSq.cell (p := ⟨b2, o2 + k * 6 + 4, none⟩) l2).trans d4; have p5 := (hSq.cell (p := ⟨b2, o2 + k * 6 + 5, none⟩) l2).trans d5; go_simp <;> first | with_reducible rfl | rfl)
      simp only [Act.put, List.setIfInBounds_toArray, List.set_cons_zero, List.set_cons_succ]
      refine take_on (i := 7) (v := ?_) rfl rfl (by kernel_rfl) (by kernel_rfl) (by kernel_rfl) (fun _ _ _ h => h) rfl ?_ hHeld ?_
      rotate_left
      · (intro wq hSq; have q0 := (hSq.cell (p := ⟨b1, o1 + k * 6, none⟩) l1).trans c0; have q1 := (hSq.cell (p := ⟨b1, o1 + k * 6 + 1, none⟩) l1).trans c1; have q2 := (hSq.cell (p := ⟨b1, o1 + k * 6 + 2, none⟩) l1).trans c2; have q3 := (hSq.cell (p := ⟨b1, o1 + k * 6 + 3, none⟩) l1).trans c3; have q4 := (hSq.cell (p := ⟨b1, o1 + k * 6 + 4, none⟩) l1).trans c4; have q5 := (hSq.cell (p := ⟨b1, o1 + k * 6 + 5, none⟩) l1).trans c5; have p0 := (hSq.cell (p := ⟨b2, o2 + k * 6, none⟩) l2).trans d0; have p1 := (hSq.cell (p := ⟨b2, o2 + k * 6 + 1, none⟩) l2).trans d1; have p2 := (hSq.cell (p := ⟨b2, o2 + k * 6 + 2, none⟩) l2).trans d2; have p3 := (hSq.cell (p := ⟨b2, o2 + k * 6 + 3, none⟩) l2).trans d3; have p4 := (hSq.cell (p := ⟨b2, o2 + k * 6 + 4, none⟩) l2).trans d4; have p5 := (hSq.cell (p := ⟨b2, o2 + k * 6 + 5, none⟩) l2).trans d5; go_simp <;> first | with_reducible rfl | rfl)
      simp only [Act.put, List.setIfInBounds_toArray, List.set_cons_zero, List.set_cons_succ]
      refine take_one (i := 8) rfl (by kernel_rfl) (fun K hK => ?_)
      go_simp
      refine hsm.mono ?_; rintro e4 w4 ⟨rfl, hb4⟩
      try go_wp2_with fail
      refine hK.out _ _ ?_ (fun hHeld => ?_)
      · exact hHeld.trans hb4
      clear hK K
      try simp only [Act.put, List.setIfInBounds_toArray, List.set_cons_zero, List.set_cons_succ]
      refine take_on (i := 9) (v := ?_) rfl rfl (by kernel_rfl) (by kernel_rfl) (by kernel_rfl) (fun _ _ _ h => h) rfl ?_ hHeld ?_
      rotate_left
      · (intro wq hSq; have q0 := (hSq.cell (p := ⟨b1, o1 + k * 6, none⟩) l1).trans c0; have q1 := (hSq.cell (p := ⟨b1, o1 + k * 6 + 1, none⟩) l1).trans c1; have q2 := (hSq.cell (p := ⟨b1, o1 + k * 6 + 2, none⟩) l1).trans c2; have q3 := (hSq.cell (p := ⟨b1, o1 + k * 6 + 3, none⟩) l1).trans c3; have q4 := (hSq.cell (p := ⟨b1, o1 + k * 6 + 4, none⟩) l1).trans c4; have q5 := (hSq.cell (p := ⟨b1, o1 + k * 6 + 5, none⟩) l1).trans c5; have p0 := (hSq.cell (p := ⟨b2, o2 + k * 6, none⟩) l2).trans d0; have p1 := (hSq.cell (p := ⟨b2, o2 + k * 6 + 1, none⟩) l2).trans d1; have p2 := (hSq.cell (p := ⟨b2, o2 + k * 6 + 2, none⟩) l2).trans d2; have p3 := (hSq.cell (p := ⟨b2, o2 + k * 6 + 3, none⟩) l2).trans d3; have p4 := (hSq.cell (p := ⟨b2, o2 + k * 6 + 4, none⟩) l2).trans d4; have p5 := (hSq.cell (p := ⟨b2, o2 + k * 6 + 5, none⟩) l2).trans d5; go_simp <;> first | with_reducible rfl | rfl)
      simp only [Act.put, List.setIfInBounds_toArray, List.set_cons_zero, List.set_cons_succ]
      refine wpAnyH_done (by kernel_rfl) ?_ _
      go_wp2_with fail
      go_roundw
      case rel => exact ⟨k + 1, by omega, by go_num, hbw.trans (hHeld.mono hs)⟩
      case measure => simp [intOf]; omega
    · have hd : decide ((k : Int) < (xs.length : Int)) = false := by simp; omega
      go_wp2_with fail
      go_ret
      exact ⟨rfl, hbw⟩

/-- Those that may be. -/
def fitE (xs : List Ent) : List Ent := xs.filter fun x => mayE x.en
theorem fitE_map (xs : List Ent) : (fitE xs).map Ent.en = (xs.map Ent.en).filter mayE := by
  unfold fitE
  rw [List.filter_map]; rfl
theorem fitE_ok {w : World} {F : Nat → Prop} {a : Option Addr} {xs : List Ent} (h : Ets w F a xs) : ∀ x ∈ (fitE xs).map Ent.en, OkE x := fun x hx => by
  obtain ⟨t, ht, rfl⟩ := List.mem_map.1 hx
  obtain ⟨h1, h2⟩ := List.mem_filter.1 ht
  exact ⟨h2, (h.each t h1).1.all⟩
theorem fitE_few (xs : List Ent) : (fitE xs).length ≤ xs.length := List.length_filter_le _ _
/-- A list of entries of one's own, whose values lie where they came from. -/
theorem ownE_ets {W : World} {N : Nat} {v : Value} {ts : List Ent} {F : Nat → Prop} (h : W.ownsRow N 77 6 v ts.length (celN ts)) (hF : ∀ b, F b → b < N) (he : ∀ t ∈ ts, PcOk W t.val ∧ (t.val.p.length = 0 ∨ farA F t.val.a)) : ∃ a c, v = .slice a ts.length c ∧ Ets W F a ts ∧ ts.length ≤ c ∧ c ≤ maxLen ∧ (a = none → ts.length = 0 ∧ c = 0) := by
  rcases h.2 with ⟨rfl, h0⟩ | ⟨g, cap, cur, rfl, hb, hh, hn, hm, _, hat⟩
  · exact ⟨none, 0, by rw [h0], ⟨.inl h0, he⟩, by omega, by simp [maxLen], fun _ => ⟨h0, rfl⟩⟩
  · refine ⟨_, cap, rfl, ⟨.inr ⟨g, 0, rfl, (Array.getElem?_eq_some_iff.1 hh).1, fun hx => by have := hF _ hx; omega, fun i x hi => ?_⟩, he⟩, hn, hm, fun e => by cases e⟩
    have hcl := celN_len ts
    have hil : i < ts.length := (List.getElem?_eq_some_iff.1 hi).1
    have key : ∀ j, j < 6 → W.cell? ⟨g, 0 + i * 6 + j, none⟩ = (sixL x)[j]? := fun j hj => by
      rw [cell_of_row _ _ _ _ _ _ hh, Nat.zero_add, ← celN_at ts i x j hi hj, ← hat, List.getElem?_take_of_lt (by omega), Array.getElem?_toList]
    exact ⟨key 0 (by omega), key 1 (by omega), key 2 (by omega), key 3 (by omega), key 4 (by omega), key 5 (by omega)⟩

set_option maxRecDepth 100000 in
set_option maxHeartbeats 800000 in
theorem fit_any (a : Option Addr) (ca : Nat) (xs : List Ent) (w : World) (F : Nat → Prop) (hx : Ets w F a xs) (hF : ∀ b, F b → b < w.heap.size) (hl : xs.length ≤ 1954687338211) :
    Calls Tryz.prog 20 #[.slice a xs.length ca] w fun e w' => (∃ a' c', e = .returned (.slice a' (fitE xs).length c') ∧ Ets w' F a' (fitE xs) ∧ (fitE xs).length ≤ c' ∧ (a' = none → (fitE xs).length = 0 ∧ c' = 0)) ∧ Below w.heap.size w w' := by
  have HX := hide_it hx
  have HF := hide_it hF
  obtain ⟨i0, hi0, hz0, hz1, hz2⟩ := info_parts infoN
  clear hx hF
  go_enter Tryz.func20, Tryz.ntmps20
  go_wp2_with fail
  go_loopw [3, 8] (fun v iv wr => ∃ k : Nat, k ≤ xs.length ∧ iv = .int .i64 (k : Int) ∧ Hid (wr.ownsRow w.heap.size 77 6 v (fitE (xs.take k)).length (celN (fitE (xs.take k)))) ∧ Below w.heap.size w wr) (fun _ iv _ => xs.length - (intOf iv).toNat)
  case atStart => exact ⟨0, Nat.zero_le _, rfl, World.ownsRow_nil _ _ _ _, Below.refl _ _⟩
  case round =>
    obtain ⟨k, hk, rfl, HO, hbw⟩ := hrel
    by_cases hlt : k < xs.length
    · have hd : decide ((k : Int) < (xs.length : Int)) = true := by simp; omega
      obtain ⟨x, hx⟩ : ∃ x, xs[k]? = some x := ⟨_, List.getElem?_eq_getElem hlt⟩
      have htake : xs.take (k + 1) = xs.take k ++ [x] := by rw [List.take_add_one, hx]; rfl
      have hfk : (fitE (xs.take k)).length ≤ k := Nat.le_trans (fitE_few _) (by rw [List.length_take]; omega)
      have hA := HX.out.below hbw
      obtain ⟨b1, o1, rfl, l1, _, r1⟩ : ∃ b o, a = some ⟨b, o, none⟩ ∧ b < wr.heap.size ∧ ¬ F b ∧ ∀ i x, xs[i]? = some x → Six wr b (o + i * 6) x := by
        rcases hA.row with h0 | h0
        · omega
        · exact h0
      obtain ⟨c0, c1, c2, c3, c4, c5⟩ := r1 k x hx
      have hck := rcheck_any x.en x.val.a x.val.c (boxE wr x.en x.val.a x.val.c)
      have hbx := boxE_below wr x.en x.val.a x.val.c
      have hs := hbw.size
      clear hA r1 hx
      cases hm : mayE x.en
      · have hc : chkE x.en = 100 := by unfold chkE; rw [hm]; rfl
        have hfe : fitE (xs.take (k + 1)) = fitE (xs.take k) := by rw [htake]; unfold fitE; rw [List.filter_append]; simp [hm]
        rw [hc] at hck
        have HO2 := HO
        rw [← hfe] at HO2
        clear HO hfe htake
        go_wp2_with fail
        refine hck.mono ?_
        rintro e w4 ⟨rfl, hb4⟩
        have hb5 := hbx.trans (hb4.mono hbx.size)
        have HO4 := hide_it (ownsRow_belowN HO2.out hb5)
        have hbw4 := hide_it (hbw.trans (hb5.mono hs))
        clear hck c0 c1 c2 c3 c4 c5 hb5 hb4 hbx HO2
        go_wp2_with fail
        go_roundw
        case rel => exact ⟨k + 1, by omega, by go_num, HO4, hbw4.out⟩
        case measure => simp [intOf]; omega
      · have hc : chkE x.en = 0 := by unfold chkE; rw [hm]; rfl
        have hfe : fitE (xs.take (k + 1)) = fitE (xs.take k) ++ [x] := by rw [htake]; unfold fitE; rw [List.filter_append]; simp [hm]
        rw [hc] at hck
        go_wp2_with fail
        refine hck.mono ?_
        rintro e w4 ⟨rfl, hb4⟩
        have hb5 := hbx.trans (hb4.mono hbx.size)
        have hO4 := ownsRow_belowN HO.out hb5
        have hbw4 := hbw.trans (hb5.mono hs)
        obtain ⟨f0, f1, f2, f3, f4, f5⟩ := (boxN_cells wr x).keep (hb4.block wr.heap.size (by simp))
        have hnew := newSix w4 x
        have hs4 := hbw4.size
        clear hck c0 c1 c2 c3 c4 c5 hb4 hbx HO hb5
        go_wp2_with (at_builtin; refine stopHere ?_)
        unfold Hid
        refine wpList_append_own_at _ rfl _ _ 38 rfl w.heap.size 77 i0 _ 6 72 Tryz.underlying38 hi0 hz0 hz1 hz2 rfl (by decide) _ _ _ rfl (World.ownsRow.alloc hO4 _) ⟨w4.heap.size, 0, none⟩ 1 1 (sixL x) rfl rfl hnew (oneSix _) (by unfold maxLen; omega) (by omega) (by simp; omega) ?_
        intro v7 w7 ho7 hg7 _ _
        have HO7 : Hid (w7.ownsRow w.heap.size 77 6 v7 (fitE (xs.take (k + 1))).length (celN (fitE (xs.take (k + 1))))) := by
          unfold Hid
          rw [hfe, List.length_append, celN_snoc]; exact ho7
        have hb7 := hide_it ((hbw4.alloc hs4 (.cells #[.int .i64 x.kind, .int .i64 x.stamp, .int .i64 x.count, .string x.key, .slice x.val.a x.val.p.length x.val.c, .bool x.dead] 77)).grown hg7 (by simp; omega) (fun j e => (ownsRow_inN hO4 e).1))
        obtain ⟨g7, c7, hv7⟩ := ownsRow_succ ho7
        subst hv7
        clear ho7 hg7 hO4
        go_wp2_with fail
        go_roundw
        case rel => exact ⟨k + 1, by omega, by go_num, HO7, hb7.out⟩
        case measure => simp [intOf]; omega
    · have hd : decide ((k : Int) < (xs.length : Int)) = false := by simp; omega
      have hkx : xs.take k = xs := List.take_of_length_le (by omega)
      have HO2 := HO.out
      rw [hkx] at HO2
      obtain ⟨a', c', rfl, h1, h2, h3, h4⟩ := ownE_ets HO2 HF.out fun t ht => (HX.out.below hbw).each t (List.mem_filter.1 ht).1
      clear HO HO2
      go_wp2_with fail
      go_ret
      exact ⟨⟨a', c', rfl, h1, h2, h4⟩, hbw⟩

end Go.Proofs.YtkacfpmninmjkaaGreat
