/- The fixed row of calls that every law of queues asks first. -/
import Derived.Test.YtomfhbngpikjeabQu6I
namespace Go.Proofs.Ytomfhbngpikjeab
open Go.RowKit

set_option maxRecDepth 100000 in
set_option maxHeartbeats 1000000 in
theorem fixed_any (w : World) : Calls Try.prog 8 #[] w fun e w' => e = .returned (.bool true) ∧ Below w.heap.size w w' := by
  have hnew := newI_any 2 w (by omega)
  go_enter Try.func8, Try.ntmps8
  go_wp2_with fail
  refine hnew.mono ?_
  rintro e w1 ⟨rfl, hq1, hb1⟩
  obtain ⟨b, hb⟩ : ∃ b, b = w.heap.size := ⟨_, rfl⟩
  rw [← hb] at hq1 ⊢
  have hp1 := pushI_any b b 2 [] 7 w1 hq1 (by simp)
  have HL1 := hide_it hq1.lt
  have HB1 := hide_it hb1
  have HBB := hide_it hb
  clear hq1 hb1 hnew hb
  go_wp2_with fail
  refine hp1.mono ?_
  rintro e w2 ⟨rfl, ⟨g2, hg2, hq2⟩, ho2⟩
  have hp2 := pushI_any b g2 2 [7] 8 w2 hq2 (by simp)
  have HG2 := hide_it hg2
  have HO2 := hide_it ho2
  clear hq2 hg2 ho2 hp1
  go_wp2_with fail
  refine hp2.mono ?_
  rintro e w3 ⟨rfl, ⟨g3, hg3, hq3⟩, ho3⟩
  have hp3 := pushI_full b g3 2 [7, 8] 9 w3 hq3 rfl
  have HG3 := hide_it hg3
  have HO3 := hide_it ho3
  have HQ3 := hide_it hq3
  clear hq3 hg3 ho3 hp2
  go_wp2_with fail
  refine hp3.mono ?_
  rintro e w4 ⟨rfl, hb4⟩
  have hq4 : QuI w4 b g3 2 [7, 8] := HQ3.out.below hb4
  have hlen := lenI_any b g3 2 [7, 8] w4 hq4
  have hpop := popI_cons b g3 2 7 [8] w4 hq4
  have HB4 := hide_it hb4
  clear hb4 hq4 hp3
  go_wp2_with fail
  refine hlen.mono ?_
  rintro e w5 ⟨rfl, hq⟩
  have hq2 := hq.symm
  subst hq2
  clear hq hlen
  go_wp2_with fail
  refine hpop.mono ?_
  rintro e w6 ⟨rfl, hq6, ho6⟩
  have hfi := firstI_cons b g3 2 8 [] w6 hq6
  have HO6 := hide_it ho6
  clear hq6 ho6 hpop
  go_wp2_with fail
  refine hfi.mono ?_
  rintro e w7 ⟨rfl, hb7⟩
  have HB7 := hide_it hb7
  clear hb7 hfi
  go_wp2
  go_ret
  refine ⟨rfl, ?_⟩
  have hb := HBB.out
  have z1 := HB1.out
  have s1 := z1.size
  have z2 := HO2.out.below (B := w.heap.size) (by omega) (by omega) (by omega)
  have s2 := z2.size
  have hg2 : w.heap.size ≤ g2 := by rcases HG2.out with e | e <;> omega
  have z3 := HO3.out.below (B := w.heap.size) (by omega) hg2 (by omega)
  have s3 := z3.size
  have hg3 : w.heap.size ≤ g3 := by rcases HG3.out with e | e <;> omega
  have z4 := HB4.out.mono (B' := w.heap.size) (by omega)
  have s4 := z4.size
  have z6 := HO6.out.below (B := w.heap.size) (by omega) hg3 (by omega)
  have s6 := z6.size
  have z7 := HB7.out.mono (B' := w.heap.size) (by omega)
  exact ((((z1.trans z2).trans z3).trans z4).trans z6).trans z7

end Go.Proofs.Ytomfhbngpikjeab
