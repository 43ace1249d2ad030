/- The law on Decode, walked. -/
import Derived.Test.YtlhlpofmeeiffaaEi5
import Derived.Test.YtlhlpofmeeiffaaEg5
import Derived.Test.YtlhlpofmeeiffaaOpenB
namespace Go.Proofs.Ytlhlpofmeeiffaa.entryReads
open Go.RowKit

set_option maxRecDepth 100000 in
set_option maxHeartbeats 4000000 in
theorem walk (ab : Option Addr) (cb : Nat) (bs : List Nat) (w : World) (hb' : Came8 w ab cb bs) :
    Calls Try.prog 5 #[.slice ab bs.length cb] w fun e w' => e = .returned (.bool true) ∧ Below w.heap.size w w' := by
  have hbrow := hb'.row
  have hb8 := hb'.all
  have hbn := hb'.none
  have hbl : bs.length ≤ 140737488355328 := by have := hb'.size; omega
  have hbc := hb'.fits
  have hbm := hb'.capm
  clear hb'
  obtain ⟨x, hx⟩ : ∃ x, x = (decE bs).getD zeroEn := ⟨_, rfl⟩
  obtain ⟨f, hf⟩ : ∃ f : Nat, f = (if (decE bs).isSome then 0 else 100 : Nat) := ⟨_, rfl⟩
  have hd0 := fun a c W (h : RowB W a bs) hn => decode_any a c bs W h hb8 (by omega) hn
  have hr0 := fun W (h : RowB W ab bs) => rdecode_any ab cb bs W h hb8 hbc hbm hbn hbl
  unfold DecTo at hd0 hr0
  rw [← hx, ← hf] at hd0 hr0
  clear hx hf
  have HLEN := hide_it hbl
  clear hbc hbm hbl
  go_enter Try.func5, Try.ntmps5
  go_wp2_with (at_builtin; refine wpList_append_row _ rfl _ _ rfl w.heap.size _ [] rfl (World.ownsRow_nil _ _ _ _) ab cb bs rfl hbrow hbn (by have := HLEN.out; simp; omega) (Nat.le_refl _) ?_; intro vc y1 ho1 hg1 hat1)
  have hb1 : Below w.heap.size w y1 := (Below.refl _ _).grown hg1 (Nat.le_refl _) (fun j e => by cases e)
  rw [List.nil_append] at ho1
  obtain ⟨a1, c1, hv1, hrow1, _, _, hn1⟩ := ho1.row
  subst hv1
  have hdec := hd0 a1 c1 y1 hrow1 hn1
  clear ho1 hg1 hat1 hrow1 hn1 hd0
  refine hdec.mono ?_
  rintro e y2 ⟨⟨a2, c2, rfl, ho2⟩, hb2⟩
  have hbw2 := hb1.trans (hb2.mono hb1.size)
  clear hdec hb1 hb2
  obtain ⟨xk, xs, xc, xy, xv, xd⟩ := x
  simp only at ho2 hr0
  obtain ⟨W3, hW3⟩ : ∃ W, W = boxE y2 ⟨xk, xs, xc, xy, xv, xd⟩ a2 c2 := ⟨_, rfl⟩
  have hb3 : Below y2.heap.size y2 W3 := by rw [hW3]; exact boxE_below _ _ _ _
  have hbx3 : BoxN W3 y2.heap.size ⟨xk, xs, xc, xy, xv, xd⟩ a2 c2 := by rw [hW3]; exact heap_alloc_new y2 _
  have hbw3 := hbw2.trans (hb3.mono hbw2.size)
  have ho3 := ho2.below hb3
  have hren := hr0 W3 (hbrow.below hbw3)
  clear ho2 hb3 hbw2 hr0
  go_wp2_with fail
  change Calls _ _ _ (boxE y2 ⟨xk, xs, xc, xy, xv, xd⟩ a2 c2) _
  rw [← hW3]
  clear hW3
  refine hren.mono ?_
  rintro e y4 ⟨⟨a4, c4, rfl, ho4⟩, hb4⟩
  have hbx4 := hbx3.under hb4 hbx3.lt
  have hbw4 := hbw3.trans (hb4.mono hbw3.size)
  have ho3' := ho3.below hb4
  clear hren hbx3 hbw3 ho3 hb4
  obtain ⟨W5, hW5⟩ : ∃ W, W = boxE y4 ⟨xk, xs, xc, xy, xv, xd⟩ a4 c4 := ⟨_, rfl⟩
  have hb5 : Below y4.heap.size y4 W5 := by rw [hW5]; exact boxE_below _ _ _ _
  have hbx5 : BoxN W5 y4.heap.size ⟨xk, xs, xc, xy, xv, xd⟩ a4 c4 := by rw [hW5]; exact heap_alloc_new y4 _
  have hbx5' := hbx4.under hb5 hbx4.lt
  have hbw5 := hbw4.trans (hb5.mono hbw4.size)
  obtain ⟨_, _, hv3, hrow3, _, _, hn3⟩ := (ho3'.below hb5).row
  cases hv3
  obtain ⟨_, _, hv4, hrow4, _, _, hn4⟩ := (ho4.below hb5).row
  cases hv4
  have hsame := same_eq ⟨xk, xs, xc, xy, xv, xd⟩ a2 a4 c2 c4 W5 hrow3 hrow4 hn3 hn4
  obtain ⟨g0, g1, g2, g3, g4, g5⟩ := hbx5.inE
  obtain ⟨q0, q1, q2, q3, q4, q5⟩ := hbx5'.inE
  simp only at g0 g1 g2 g3 g4 g5 q0 q1 q2 q3 q4 q5
  have HBW := hide_it hbw5
  rw [hW5] at g0 g1 g2 g3 g4 g5 q0 q1 q2 q3 q4 q5
  clear ho3' ho4 hb5 hbw4 hbx4 hbx5 hbx5' hbw5 hrow3 hrow4 hn3 hn4
  go_wp2_with fail
  change Calls _ _ _ (boxE y4 ⟨xk, xs, xc, xy, xv, xd⟩ a4 c4) _
  rw [← hW5]
  refine hsame.mono ?_
  rintro e y6 ⟨rfl, hb6⟩
  have HB6 := hide_it (HBW.out.trans (hb6.mono HBW.out.size))
  clear hsame hb6 HBW g0 g1 g2 g3 g4 g5 q0 q1 q2 q3 q4 q5 hW5
  go_wp2_with fail
  refine (awake_any _).mono ?_
  rintro e y7 ⟨rfl, hb7⟩
  have hend := HB6.out.trans (hb7.mono HB6.out.size)
  clear hb7 HB6
  go_wp2_with fail
  go_ret
  exact ⟨rfl, hend⟩
end Go.Proofs.Ytlhlpofmeeiffaa.entryReads
