/- The law on chains of other kinds, walked. -/
import Derived.Test.YtncmnhomloanaabHl2
import Derived.Test.YtncmnhomloanaabHn4I
import Derived.Test.YtncmnhomloanaabHn4Y
import Derived.Test.YtncmnhomloanaabSb1
import Derived.Test.YtncmnhomloanaabOpenB
namespace Go.Proofs.Ytncmnhomloanaab.chainKinds
open Go.RowKit

theorem newI (w : World) : kI.Hn (w.alloc (.cells #[.slice none 0 0] 41)) (fun j => j = w.heap.size) w.heap.size (.slice none 0 0) [] :=
  ⟨heap_alloc_new w _, OwnS.nil _ _ _ _, kI.Good.nil, rfl, (fun j e => by cases e)⟩
theorem newY (w : World) : kY.Hn (w.alloc (.cells #[.slice none 0 0] 45)) (fun j => j = w.heap.size) w.heap.size (.slice none 0 0) [] :=
  ⟨heap_alloc_new w _, OwnS.nil _ _ _ _, kY.Good.nil, rfl, (fun j e => by cases e)⟩
/-- What a link that is added first is told as. -/
theorem oneI (n v : Int) : (n < 0 → kI.addE [] ⟨n, v, false⟩ = 130 ∧ kI.addL [] ⟨n, v, false⟩ = []) ∧ (0 ≤ n → kI.addE [] ⟨n, v, false⟩ = 0 ∧ kI.addL [] ⟨n, v, false⟩ = [⟨n, v, false⟩]) := by
  refine ⟨fun h => ?_, fun h => ?_⟩
  · have hr : kI.refu [] ⟨n, v, false⟩ := .inl h
    exact ⟨if_pos hr, if_pos hr⟩
  · have hr : ¬ kI.refu [] ⟨n, v, false⟩ := fun e => by
      rcases e with e | e
      · have e' : n < 0 := e
        omega
      · exact absurd e.1 (by simp)
    exact ⟨if_neg hr, if_neg hr⟩
theorem oneY (n : Int) (v : Option Addr × Nat × Nat) : (n < 0 → kY.addE [] ⟨n, v, true⟩ = 130 ∧ kY.addL [] ⟨n, v, true⟩ = []) ∧ (0 ≤ n → kY.addE [] ⟨n, v, true⟩ = 0 ∧ kY.addL [] ⟨n, v, true⟩ = [⟨n, v, true⟩]) := by
  refine ⟨fun h => ?_, fun h => ?_⟩
  · have hr : kY.refu [] ⟨n, v, true⟩ := .inl h
    exact ⟨if_pos hr, if_pos hr⟩
  · have hr : ¬ kY.refu [] ⟨n, v, true⟩ := fun e => by
      rcases e with e | e
      · have e' : n < 0 := e
        omega
      · exact absurd e.1 (by simp)
    exact ⟨if_neg hr, if_neg hr⟩
theorem upI (n v : Int) : kI.upN [⟨n, v, false⟩] n = 1 := by simp [kI.upN]

set_option maxRecDepth 100000 in
set_option maxHeartbeats 4000000 in
theorem walk (n : Int) (hn : -9223372036854775808 ≤ n ∧ n ≤ 9223372036854775807) (v : Int) (_ : -9223372036854775808 ≤ v ∧ v ≤ 9223372036854775807) (lb : Option Addr) (cb : Nat) (zs : List Nat) (w : World) (hc : Came8 w lb cb zs) :
    Calls Try.prog 4 #[.int .i64 n, .int .i64 v, .slice lb zs.length cb] w fun e w' => e = .returned (.bool true) ∧ Below w.heap.size w w' := by
  have hrow := hc.row
  have hnil := hc.none
  clear hc
  obtain ⟨W0, hW0⟩ : ∃ W, W = (w.alloc (.cells #[.slice none 0 0] 41)).alloc (.cells #[.slice none 0 0] 45) := ⟨_, rfl⟩
  have hz0 : W0.heap.size = w.heap.size + 2 := by rw [hW0]; simp
  have hb0 : Below w.heap.size w W0 := by rw [hW0]; exact ((Below.refl _ _).alloc (Nat.le_refl _) _).alloc (by simp) _
  have hA0 : kI.Hn W0 (fun j => j = w.heap.size) w.heap.size (.slice none 0 0) [] := by rw [hW0]; exact (newI w).below ((Below.refl _ _).alloc (Nat.le_refl _) _)
  have hB0 : kY.Hn W0 (fun j => j = w.heap.size + 1) (w.heap.size + 1) (.slice none 0 0) [] := by
    have := newY (w.alloc (.cells #[.slice none 0 0] 41))
    rw [show (w.alloc (.cells #[.slice none 0 0] 41)).heap.size = w.heap.size + 1 by simp] at this
    rw [hW0]; exact this
  have hadd := kI.add_any hA0 ⟨n, v, false⟩ hn.2 (by simp)
  obtain ⟨E, hE⟩ : ∃ E, E = kI.addE [] ⟨n, v, false⟩ := ⟨_, rfl⟩
  obtain ⟨XA, hXA⟩ : ∃ X, X = kI.addL [] ⟨n, v, false⟩ := ⟨_, rfl⟩
  obtain ⟨Ey, hEy⟩ : ∃ E, E = kY.addE [] ⟨n, (lb, zs.length, cb), true⟩ := ⟨_, rfl⟩
  obtain ⟨XY, hXY⟩ : ∃ X, X = kY.addL [] ⟨n, (lb, zs.length, cb), true⟩ := ⟨_, rfl⟩
  rw [← hE, ← hXA] at hadd
  unfold kI.lkV at hadd
  have HB0 := hide_it hB0
  have hl1 : XA.length ≤ 4000000000000 := by have := (kI.addL_len [] ⟨n, v, false⟩).2; rw [hXA]; simp at this; omega
  have hl2 : XY.length ≤ 4000000000000 := by have := (kY.addL_len [] ⟨n, (lb, zs.length, cb), true⟩).2; rw [hXY]; simp at this; omega
  replace hE := hide_it hE
  replace hXA := hide_it hXA
  replace hEy := hide_it hEy
  replace hXY := hide_it hXY
  clear hA0 hB0
  go_enter Try.func4, Try.ntmps4
  go_wp2_with fail
  rw [← hW0]
  clear hW0
  refine hadd.mono ?_
  rintro e w1 ⟨rfl, ht1⟩
  obtain ⟨va, hA1⟩ := ht1.hn
  have hB1 := HB0.out.chg ht1.chg (fun j h1 h2 => by omega)
  have hz1 := ht1.chg.size
  have hb1 : Below w.heap.size w w1 := hb0.trans (ht1.chg.below (fun k hk => by omega) (by omega))
  have hadd2 := kY.add_any hB1 ⟨n, (lb, zs.length, cb), true⟩ hn.2 (by simp)
  rw [← hEy.out, ← hXY.out] at hadd2
  unfold kY.lkV at hadd2
  clear hadd ht1 hB1 hb0
  go_wp2_with fail
  refine hadd2.mono ?_
  rintro e w2 ⟨rfl, ht2⟩
  obtain ⟨vb, hB2⟩ := ht2.hn
  have hA2 := hA1.chg ht2.chg (fun j h1 h2 => by
    rcases h2 with h2 | h2
    · omega
    · omega)
  have hb2 : Below w.heap.size w w2 := hb1.trans (ht2.chg.below (fun k hk => by omega) hb1.size)
  have hat := kI.at_any hA2 hl1 n
  have hB := hide_it hB2
  have hA := hide_it hA2
  have HB2 := hide_it hb2
  clear hadd2 ht2 hA1 hA2 hB2 hb1 hb2 HB0 hz0 hz1
  by_cases hneg : n < 0
  · obtain ⟨e1, e2⟩ := (oneI n v).1 hneg
    obtain ⟨e3, e4⟩ := (oneY n (lb, zs.length, cb)).1 hneg
    have f1 := hE.out.trans e1
    have f2 := hXA.out.trans e2
    have f3 := hEy.out.trans e3
    have f4 := hXY.out.trans e4
    subst f1
    subst f2
    subst f3
    subst f4
    rw [show kI.upN [] n = 0 from rfl, show kI.lastK [] 0 = kI.zeroLk from rfl, show decide (0 < 0) = false from rfl] at hat
    have hla := fun z (hz : Below w2.heap.size w2 z) => kY.last_any (hB.out.below hz) hl2
    simp only [List.length_nil] at hla
    rw [show kY.lastK [] 0 = kY.zeroLk from rfl, show decide (0 < 0) = false from rfl] at hla
    unfold kI.tellL kI.lkV kI.zeroLk at hat
    unfold kY.tellL kY.lkV kY.zeroLk at hla
    clear e1 e2 e3 e4 hE hXA hEy hXY hB hA hl1 hl2 hrow hnil
    go_wp2_with fail
    refine hat.mono ?_
    rintro e z1 ⟨rfl, y1⟩
    obtain ⟨Z1, hZ1⟩ : ∃ W, W = z1.alloc (.cells #[.int .i64 0, .int .i64 0, .bool false] 48) := ⟨_, rfl⟩
    obtain ⟨B1, hB1⟩ : ∃ B, B = z1.heap.size := ⟨_, rfl⟩
    have k1 : Z1.heap[B1]? = some (.cells #[.int .i64 0, .int .i64 0, .bool false] 48 (0, 0)) := by rw [hZ1, hB1]; exact heap_alloc_new z1 _
    have yy1 : Below w2.heap.size w2 Z1 := by rw [hZ1]; exact y1.trans (((Below.refl _ _).alloc (Nat.le_refl _) _).mono y1.size)
    have lB1 := (Array.getElem?_eq_some_iff.1 k1).1
    have hla := hla Z1 yy1
    clear hat y1
    go_wp2_with fail
    rw [← hZ1, ← hB1]
    clear hZ1 hB1
    refine hla.mono ?_
    rintro e z2 ⟨rfl, y2⟩
    have k2 := (y2.block B1 lB1).trans k1
    have lB2 := (Array.getElem?_eq_some_iff.1 k2).1
    have q1 : z2.cell? ⟨B1, 1, none⟩ = some (.int .i64 0) := cell_of_row _ _ _ _ _ _ k2
    obtain ⟨Z2, hZ2⟩ : ∃ W, W = z2.alloc (.cells #[.int .i64 0, .slice none 0 0, .bool false] 51) := ⟨_, rfl⟩
    have hb9 : Below w.heap.size w Z2 := by
      have hy := yy1.trans (y2.mono yy1.size)
      rw [hZ2]; exact (HB2.out.trans (hy.mono HB2.out.size)).alloc (Nat.le_trans HB2.out.size hy.size) _
    have haw := awake_any Z2
    clear hla y2 yy1 k1 k2
    go_wp2_with fail
    rw [← hZ2]
    clear hZ2
    refine haw.mono ?_
    rintro e z3 ⟨rfl, y3⟩
    have HY := hide_it (hb9.trans (y3.mono hb9.size))
    clear haw y3 hb9 q1
    go_wp2
    go_ret
    exact ⟨rfl, HY.out⟩
  · obtain ⟨e1, e2⟩ := (oneI n v).2 (by omega)
    obtain ⟨e3, e4⟩ := (oneY n (lb, zs.length, cb)).2 (by omega)
    have f1 := hE.out.trans e1
    have f2 := hXA.out.trans e2
    have f3 := hEy.out.trans e3
    have f4 := hXY.out.trans e4
    subst f1
    subst f2
    subst f3
    subst f4
    rw [upI, show kI.lastK [⟨n, v, false⟩] 1 = ⟨n, v, false⟩ from rfl, show decide (0 < 1) = true from rfl] at hat
    have hla := fun z (hz : Below w2.heap.size w2 z) => kY.last_any (hB.out.below hz) hl2
    have hlen := fun z (hz : Below w2.heap.size w2 z) => kI.len_any (hA.out.below hz)
    simp only [List.length_cons, List.length_nil, Nat.zero_add] at hla hlen
    rw [show kY.lastK [⟨n, (lb, zs.length, cb), true⟩] 1 = ⟨n, (lb, zs.length, cb), true⟩ from rfl, show decide (0 < 1) = true from rfl] at hla
    unfold kI.tellL kI.lkV at hat
    unfold kY.tellL kY.lkV at hla
    clear e1 e2 e3 e4 hE hXA hEy hXY hB hA hl1 hl2
    go_wp2_with fail
    refine hat.mono ?_
    rintro e z1 ⟨rfl, y1⟩
    obtain ⟨Z1, hZ1⟩ : ∃ W, W = z1.alloc (.cells #[.int .i64 n, .int .i64 v, .bool false] 48) := ⟨_, rfl⟩
    obtain ⟨B1, hB1⟩ : ∃ B, B = z1.heap.size := ⟨_, rfl⟩
    have k1 : Z1.heap[B1]? = some (.cells #[.int .i64 n, .int .i64 v, .bool false] 48 (0, 0)) := by rw [hZ1, hB1]; exact heap_alloc_new z1 _
    have yy1 : Below w2.heap.size w2 Z1 := by rw [hZ1]; exact y1.trans (((Below.refl _ _).alloc (Nat.le_refl _) _).mono y1.size)
    have lB1 := (Array.getElem?_eq_some_iff.1 k1).1
    have hla := hla Z1 yy1
    clear hat y1
    go_wp2_with fail
    rw [← hZ1, ← hB1]
    clear hZ1 hB1
    refine hla.mono ?_
    rintro e z2 ⟨rfl, y2⟩
    have k2 := (y2.block B1 lB1).trans k1
    have lB2 := (Array.getElem?_eq_some_iff.1 k2).1
    have q0 : z2.cell? ⟨B1, 0, none⟩ = some (.int .i64 n) := cell_of_row _ _ _ _ _ _ k2
    have q1 : z2.cell? ⟨B1, 1, none⟩ = some (.int .i64 v) := cell_of_row _ _ _ _ _ _ k2
    have q2 : z2.cell? ⟨B1, 2, none⟩ = some (.bool false) := cell_of_row _ _ _ _ _ _ k2
    obtain ⟨Z2, hZ2⟩ : ∃ W, W = z2.alloc (.cells #[.int .i64 n, .slice lb zs.length cb, .bool true] 51) := ⟨_, rfl⟩
    have hy2 : Below w2.heap.size w2 Z2 := by
      have hy := yy1.trans (y2.mono yy1.size)
      rw [hZ2]; exact hy.alloc hy.size _
    have hb9 := HB2.out.trans (hy2.mono HB2.out.size)
    have kc := conv_row (hrow.below hb9) hnil
    rw [hZ2] at kc
    have hlen := hlen Z2 hy2
    have e1 : (n == n) = true := by simp
    have e2 : (v == v) = true := by simp
    have e3 : ((strOf zs).toList == (strOf zs).toList) = true := by simp
    generalize strOf zs = sz at *
    clear hla y2 yy1 k1 k2 hy2 hrow
    go_wp2_with fail
    rw [← hZ2]
    clear hZ2 kc
    refine hlen.mono ?_
    rintro e z3 ⟨rfl, w3e⟩
    obtain rfl := w3e.symm
    have haw := awake_any Z2
    clear hlen w3e q0 q1 q2
    go_wp2_with fail
    refine haw.mono ?_
    rintro e z4 ⟨rfl, y3⟩
    have HY := hide_it (hb9.trans (y3.mono hb9.size))
    clear haw y3 hb9
    go_wp2
    go_ret
    exact ⟨rfl, HY.out⟩
end Go.Proofs.Ytncmnhomloanaab.chainKinds
