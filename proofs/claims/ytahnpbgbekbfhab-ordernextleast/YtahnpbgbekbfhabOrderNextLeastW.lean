/- What begins with a text lies from it on, below Next: the law's walk. -/
import Derived.Test.YtahnpbgbekbfhabNx1
namespace Go.Proofs.Ytahnpbgbekbfhab.orderNextLeast
open Go.RowKit

theorem strNat_append (s t : ByteArray) : strNat (s ++ t) = strNat s ++ strNat t := by
  unfold strNat
  simp [ByteArray.data_append]

set_option maxRecDepth 100000 in
set_option maxHeartbeats 1000000 in
theorem walk (s t : ByteArray) (w : World) (hs : s.size ≤ 140737488351232) (ht : t.size ≤ 140737488351232) :
    Calls Try.prog 7 #[.string s, .string t] w fun e w' => e = .returned (.bool true) ∧ Below w.heap.size w w' := by
  have hN := fun w => next_any s w hs
  have k1 := next_least (strNat s) (strNat t) (strNat_all t)
  have k2 := next_least (strNat s) (strNat (s ++ t)) (strNat_all _)
  have b2 : bgn (strNat (s ++ t)) (strNat s) = true := by
    unfold bgn
    rw [strNat_append, List.take_left' rfl]; simp
  have hsz : (s ++ t).size = s.size + t.size := ByteArray.size_append
  have g1 := fun w => begins_any t s w (by omega) (by omega)
  have g2 := fun w => begins_any (s ++ t) s w (by omega) (by omega)
  rw [b2] at g2 k2
  have o1 := str_less t s
  have o2 := str_less (s ++ t) s
  unfold lies at k1 k2
  have a2 : Op.bytesLess (s ++ t).toList s.toList = false := by
    rw [o2]
    have := (Bool.and_eq_true_iff.1 k2.symm).1
    simpa using this
  clear o2
  generalize hu : s ++ t = u at *
  cases hn : nextRes (strNat s) with
  | none =>
    rw [hn] at k1 k2 hN
    simp only [Bool.and_true, Option.getD_none, Option.isSome_none] at k1 hN
    rw [k1] at g1
    clear k1 k2 b2 hn
    generalize strOf [] = e0 at *
    cases hp : decide (lexc (strNat t) (strNat s) = -1) with
    | true =>
      rw [hp] at o1
      have hq : decide (lexc (strNat t) (strNat s) ≠ -1) = false := by simpa using hp
      rw [hq] at g1
      clear hp hq
      go_enter Try.func7, Try.ntmps7
      go_wp2_with fail
      refine (awake_any _).mono ?_
      rintro e w1 ⟨rfl, hb1⟩
      go_wp2_with fail
      refine (hN _).mono ?_
      rintro e w2 ⟨rfl, hb2⟩
      have hb := hb1.trans (hb2.mono hb1.size)
      go_wp2_with fail
      refine (g1 _).mono ?_
      rintro e w3 ⟨rfl, hq⟩
      have hq2 := hq.symm
      subst hq2
      clear hq
      go_wp2_with fail
      refine (g2 _).mono ?_
      rintro e w4 ⟨rfl, hq⟩
      have hq2 := hq.symm
      subst hq2
      clear hq
      go_wp2_with fail
      go_ret
      exact ⟨rfl, hb⟩
    | false =>
      rw [hp] at o1
      have hq : decide (lexc (strNat t) (strNat s) ≠ -1) = true := by simpa using hp
      rw [hq] at g1
      clear hp hq
      go_enter Try.func7, Try.ntmps7
      go_wp2_with fail
      refine (awake_any _).mono ?_
      rintro e w1 ⟨rfl, hb1⟩
      go_wp2_with fail
      refine (hN _).mono ?_
      rintro e w2 ⟨rfl, hb2⟩
      have hb := hb1.trans (hb2.mono hb1.size)
      go_wp2_with fail
      refine (g1 _).mono ?_
      rintro e w3 ⟨rfl, hq⟩
      have hq2 := hq.symm
      subst hq2
      clear hq
      go_wp2_with fail
      refine (g2 _).mono ?_
      rintro e w4 ⟨rfl, hq⟩
      have hq2 := hq.symm
      subst hq2
      clear hq
      go_wp2_with fail
      go_ret
      exact ⟨rfl, hb⟩
  | some n =>
    rw [hn] at k1 k2 hN
    simp only [Option.getD_some, Option.isSome_some] at k1 k2 hN
    have hn8 := next_all8 (strNat_all s) hn
    have o3 := str_less t (strOf n)
    have o4 := str_less u (strOf n)
    rw [strNat_strOf hn8] at o3 o4
    rw [(Bool.and_eq_true_iff.1 k2.symm).2] at o4
    rw [k1] at g1
    clear k1 k2 b2 hn
    generalize strOf n = nn at *
    cases hp : decide (lexc (strNat t) (strNat s) = -1) with
    | true =>
      rw [hp] at o1
      have hq : decide (lexc (strNat t) (strNat s) ≠ -1) = false := by simpa using hp
      rw [hq, Bool.false_and] at g1
      clear hp hq o3
      go_enter Try.func7, Try.ntmps7
      go_wp2_with fail
      refine (awake_any _).mono ?_
      rintro e w1 ⟨rfl, hb1⟩
      go_wp2_with fail
      refine (hN _).mono ?_
      rintro e w2 ⟨rfl, hb2⟩
      have hb := hb1.trans (hb2.mono hb1.size)
      go_wp2_with fail
      refine (g1 _).mono ?_
      rintro e w3 ⟨rfl, hq⟩
      have hq2 := hq.symm
      subst hq2
      clear hq
      go_wp2_with fail
      refine (g2 _).mono ?_
      rintro e w4 ⟨rfl, hq⟩
      have hq2 := hq.symm
      subst hq2
      clear hq
      go_wp2_with fail
      go_ret
      exact ⟨rfl, hb⟩
    | false =>
      rw [hp] at o1
      have hq : decide (lexc (strNat t) (strNat s) ≠ -1) = true := by simpa using hp
      rw [hq, Bool.true_and] at g1
      clear hp hq
      cases hr : decide (lexc (strNat t) n = -1) with
      | true =>
        rw [hr] at g1 o3
        clear hr
        go_enter Try.func7, Try.ntmps7
        go_wp2_with fail
        refine (awake_any _).mono ?_
        rintro e w1 ⟨rfl, hb1⟩
        go_wp2_with fail
        refine (hN _).mono ?_
        rintro e w2 ⟨rfl, hb2⟩
        have hb := hb1.trans (hb2.mono hb1.size)
        go_wp2_with fail
        refine (g1 _).mono ?_
        rintro e w3 ⟨rfl, hq⟩
        have hq2 := hq.symm
        subst hq2
        clear hq
        go_wp2_with fail
        refine (g2 _).mono ?_
        rintro e w4 ⟨rfl, hq⟩
        have hq2 := hq.symm
        subst hq2
        clear hq
        go_wp2_with fail
        go_ret
        exact ⟨rfl, hb⟩
      | false =>
        rw [hr] at g1 o3
        clear hr
        go_enter Try.func7, Try.ntmps7
        go_wp2_with fail
        refine (awake_any _).mono ?_
        rintro e w1 ⟨rfl, hb1⟩
        go_wp2_with fail
        refine (hN _).mono ?_
        rintro e w2 ⟨rfl, hb2⟩
        have hb := hb1.trans (hb2.mono hb1.size)
        go_wp2_with fail
        refine (g1 _).mono ?_
        rintro e w3 ⟨rfl, hq⟩
        have hq2 := hq.symm
        subst hq2
        clear hq
        go_wp2_with fail
        refine (g2 _).mono ?_
        rintro e w4 ⟨rfl, hq⟩
        have hq2 := hq.symm
        subst hq2
        clear hq
        go_wp2_with fail
        go_ret
        exact ⟨rfl, hb⟩

end Go.Proofs.Ytahnpbgbekbfhab.orderNextLeast
