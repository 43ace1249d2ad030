/- What bytes begin with, walked: the program's Read. -/
import Derived.Test.YtadceolgekbgmabFw2
namespace Go.Proofs.Ytadceolgekbgmab
open Go.RowKit

/-- What Read answers. -/
def RdTo (bs : List Nat) (base : Nat) (w' : World) (e : Ending) : Except Nat Nat → Prop
  | .error c => e = .returned (.tuple #[.slice none 0 0, .int .i64 0, .int .i64 (c : Int)])
  | .ok n => ∃ v, e = .returned (.tuple #[v, .int .i64 ((n + 9 : Nat) : Int), .int .i64 0]) ∧ OwnB w' base v ((bs.drop 5).take n)

theorem szF_err {bs : List Nat} (h : (szF bs).2 ≠ 0) : rdF bs = .error (szF bs).2 := by
  unfold szF at *
  unfold rdF
  by_cases h1 : bs.length = 0
  · rw [if_pos h1]; rw [if_pos h1]
  rw [if_neg h1] at h ⊢
  rw [if_neg h1]
  by_cases h2 : at0 bs 0 ≠ 197
  · rw [if_pos h2]; rw [if_pos h2]
  rw [if_neg h2] at h ⊢
  rw [if_neg h2]
  by_cases h3 : bs.length < 5
  · rw [if_pos h3]; rw [if_pos h3]
  rw [if_neg h3] at h ⊢
  rw [if_neg h3]
  by_cases h4 : 65536 < lnF bs
  · rw [if_pos h4]; rw [if_pos h4]
  rw [if_neg h4] at h
  exact absurd rfl h
theorem szF_ok {bs : List Nat} (h : (szF bs).2 = 0) : (szF bs).1 = lnF bs + 5 + 4 ∧ lnF bs ≤ 65536 ∧ 5 ≤ bs.length ∧
    rdF bs = if bs.length < lnF bs + 9 then .error 20 else if beVal ((bs.drop (lnF bs + 5)).take 4) ≠ moreN 0 (bs.take (lnF bs + 5)) then .error 91 else .ok (lnF bs) := by
  unfold szF at *
  unfold rdF
  by_cases h1 : bs.length = 0
  · rw [if_pos h1] at h; cases h
  rw [if_neg h1] at h
  rw [if_neg h1, if_neg h1]
  by_cases h2 : at0 bs 0 ≠ 197
  · rw [if_pos h2] at h; cases h
  rw [if_neg h2] at h
  rw [if_neg h2, if_neg h2]
  by_cases h3 : bs.length < 5
  · rw [if_pos h3] at h; cases h
  rw [if_neg h3] at h
  rw [if_neg h3, if_neg h3]
  by_cases h4 : 65536 < lnF bs
  · rw [if_pos h4] at h; cases h
  rw [if_neg h4, if_neg h4]
  exact ⟨by show 5 + lnF bs + 4 = _; omega, by omega, by omega, rfl⟩

theorem RowB.cut {w : World} {b o : Nat} {zs : List Nat} (h : RowB w (some ⟨b, o, none⟩) zs) (i n : Nat) : RowB w (some ⟨b, o + i, none⟩) ((zs.drop i).take n) := by
  have := ((RowLt.of_row h).drop i).take n |>.row
  rwa [Option.map_some, Addr.add_lit] at this

set_option maxRecDepth 100000 in
set_option maxHeartbeats 800000 in
theorem read_any (a : Option Addr) (cap : Nat) (bs : List Nat) (w : World) (hr : RowB w a bs) (h8 : All8 bs) (hc : bs.length ≤ cap) (hm : cap ≤ maxLen) (hnil : a = none → bs.length = 0 ∧ cap = 0) :
    Calls Try.prog 12 #[.slice a bs.length cap] w fun e w' => RdTo bs w.heap.size w' e (rdF bs) ∧ Below w.heap.size w w' := by
  have hsz := sizeOf_any a cap bs w hr h8 hc hm hnil
  unfold maxLen at hm
  by_cases hcd : (szF bs).2 ≠ 0
  · rw [szF_err hcd]
    generalize szF bs = z at *
    obtain ⟨N, c⟩ := z
    have hcd' : ¬ (c : Int) = 0 := by simpa using hcd
    clear hr
    go_enter Try.func12, Try.ntmps12
    go_wp2_with fail
    refine hsz.mono ?_
    rintro e w1 ⟨rfl, hb1⟩
    clear hsz
    go_wp2_with fail
    go_ret3
    exact ⟨rfl, hb1⟩
  · obtain ⟨e1, hn, h5, e2⟩ := szF_ok (Decidable.not_not.1 hcd)
    rw [Decidable.not_not.1 hcd, e1] at hsz
    clear hcd e1
    obtain ⟨b, o, rfl, hblt, _⟩ := hr.here (i := 0) (by omega)
    obtain ⟨n, hnn⟩ : ∃ n, n = lnF bs := ⟨_, rfl⟩
    rw [← hnn] at e2 hn hsz
    rw [e2]
    clear hnn e2 hnil
    obtain ⟨M, hM⟩ : ∃ M, M = n + 5 := ⟨_, rfl⟩
    rw [← hM] at hsz ⊢
    have hMl : M ≤ 65541 := by omega
    have hM5 : 5 ≤ M := by omega
    have HM := hide_it hM
    by_cases hcut : bs.length < n + 9
    · have hcut' : (bs.length : Int) < (M : Int) + 4 := by omega
      rw [if_pos hcut]
      clear hM
      go_enter Try.func12, Try.ntmps12
      go_wp2_with fail
      refine hsz.mono ?_
      rintro e w1 ⟨rfl, hb1⟩
      clear hsz
      go_wp2_with fail
      go_ret3
      exact ⟨rfl, hb1⟩
    · have hcut' : ¬ (bs.length : Int) < (M : Int) + 4 := by omega
      rw [if_neg hcut]
      obtain ⟨S4, hS4⟩ : ∃ S4, S4 = (bs.drop M).take 4 := ⟨_, rfl⟩
      obtain ⟨Sm, hSm⟩ : ∃ Sm, Sm = bs.take M := ⟨_, rfl⟩
      obtain ⟨Py, hPy⟩ : ∃ Py, Py = (bs.drop 5).take n := ⟨_, rfl⟩
      have hS4r : RowB w (some ⟨b, o + M, none⟩) S4 := by rw [hS4]; exact hr.cut M 4
      have hSmr : RowB w (some ⟨b, o, none⟩) Sm := by rw [hSm]; have := hr.cut 0 M; rwa [List.drop_zero, Nat.add_zero] at this
      have hPyr : RowB w (some ⟨b, o + 5, none⟩) Py := by rw [hPy]; exact hr.cut 5 n
      have hS4l : S4.length = 4 := by rw [hS4]; simp; omega
      have hSml : Sm.length = M := by rw [hSm]; simp; omega
      have hPyl : Py.length = n := by rw [hPy]; simp; omega
      have hS48 : All8 S4 := by rw [hS4]; exact (h8.drop _).take _
      have hSm8 : All8 Sm := by rw [hSm]; exact h8.take _
      have hcM : ¬ cap = M := by omega
      have hc5 : ¬ cap = 5 := by omega
      have hMc : M + 4 ≤ cap := by omega
      have HPy := hide_it hPy
      rw [← hS4, ← hSm]
      obtain ⟨R, hR⟩ : ∃ R : Except Nat Nat, R = if beVal S4 ≠ moreN 0 Sm then .error 91 else .ok n := ⟨_, rfl⟩
      rw [← hR]
      replace hR := hide_it hR
      clear hS4 hSm hPy hr h8 hM hcut
      go_enter Try.func12, Try.ntmps12
      go_wp2_with fail
      refine hsz.mono ?_
      rintro e w1 ⟨rfl, hb1⟩
      clear hsz
      go_wp2_with fail
      go_quiet (fail)
      go_wp2_with fail
      obtain ⟨u, hu⟩ : ∃ u, u = w1.drewN nq := ⟨_, rfl⟩
      have hbu : Below w.heap.size w u := by rw [hu]; exact below_drewN hb1 nq
      rw [← hu]
      have hzu := hbu.size
      have hop := open_any (some ⟨b, o + M, none⟩) (cap - M) S4 u (hS4r.below hbu) (by omega) (by simp)
      rw [hS4l] at hop
      have hr4 : rdOf 0 (takeFixed 4) (S4, 0) = (beVal S4, ([], 0)) := by
        simp [rdOf, takeFixed, hS4l, List.take_of_length_le (Nat.le_of_eq hS4l), List.drop_eq_nil_of_le (Nat.le_of_eq hS4l)]
      have hX : beVal S4 < 4294967296 := by have := beVal_bound hS48; rwa [hS4l] at this
      clear hu hb1 hS4r
      refine hop.mono ?_
      rintro e w2 ⟨p, rfl, hp, hrd, hb2⟩
      have ht := take32 (some ⟨p, 0, none⟩) (S4, 0) w2 (.inr ⟨p, rfl, hrd, hS48⟩)
      rw [hr4] at ht
      have hbw2 := hbu.trans (hb2.mono hzu)
      have hz2 := hbw2.size
      clear hop hrd hr4 hS48 hS4l
      generalize beVal S4 = X at *
      go_wp2_with fail
      refine ht.mono ?_
      intro e w3 hrd3
      have hbw3 := hbw2.trans (hrd3.row (B := w.heap.size) hz2 (fun x e => by cases e; exact Nat.le_trans hzu hp))
      obtain ⟨rfl, _, _⟩ := hrd3
      have hof := of_any (some ⟨b, o, none⟩) cap Sm w3 (hSmr.below hbw3) hSm8 (by unfold maxLen; omega)
      rw [hSml] at hof
      have hz3 := hbw3.size
      clear ht hSm8 hSml
      generalize moreN 0 Sm = Y at *
      go_wp2_with fail
      refine hof.mono ?_
      rintro e w4 ⟨rfl, hb4⟩
      have hbw4 := hbw3.trans (hb4.mono hz3)
      have hz4 := hbw4.size
      clear hof hSmr
      by_cases hXY : X ≠ Y
      · have hXY' : ¬ (X : Int) = (Y : Int) := by omega
        go_wp2_with fail
        go_ret3
        rw [hR.out, if_pos hXY]
        exact ⟨rfl, hbw4⟩
      · have hXY' : (X : Int) = (Y : Int) := by omega
        have hcl := clone_any (some ⟨b, o + 5, none⟩) (cap - 5) Py w4 (hPyr.below hbw4) (by omega) (by simp)
        rw [show Py.length = M - 5 by rw [hPyl]; have := HM.out; omega] at hcl
        clear hPyr hPyl
        go_wp2_with fail
        refine hcl.mono ?_
        rintro e w5 ⟨⟨v, rfl, hown⟩, hb5⟩
        clear hcl
        go_wp2_with fail
        go_ret3
        rw [hR.out, if_neg hXY]
        refine ⟨⟨v, ?_, ?_⟩, hbw4.trans (hb5.mono hz4)⟩
        · rw [show ((n + 9 : Nat) : Int) = (M : Int) + 4 by have := HM.out; omega]
          rfl
        · rw [← HPy.out]; exact hown.mono hz4

end Go.Proofs.Ytadceolgekbgmab
