/- What bytes begin with, walked: the program's sizeOf and Read. -/
import Derived.Test.YtadceolgekbgmabFw1
namespace Go.Proofs.Ytadceolgekbgmab
open Go.RowKit

/-- How many bytes a frame has with whose head bytes begin, or the error. -/
def szF (bs : List Nat) : Nat × Nat :=
  if bs.length = 0 then (0, 20)
  else if at0 bs 0 ≠ 197 then (0, 90)
  else if bs.length < 5 then (0, 20)
  else if 65536 < lnF bs then (0, 3)
  else (5 + lnF bs + 4, 0)

/-- The same, as a reader tells it. -/
def szR (r1 : Nat × (List Nat × Nat)) : Nat × Nat :=
  if r1.2.2 = 0 ∧ r1.1 ≠ 197 then (0, 90) else
  let r2 := rdOf 0 (takeFixed 4) r1.2
  if r2.2.2 ≠ 0 then (0, r2.2.2) else if 65536 < r2.1 then (0, 3) else (5 + r2.1 + 4, 0)

theorem beVal_one (x : Nat) : beVal [x] = x := by simp [beVal]

theorem szF_eq {bs : List Nat} (h8 : All8 bs) : szF bs = szR (rdOf 0 (takeFixed 1) (bs.take 5, 0)) := by
  cases bs with
  | nil => rfl
  | cons x r =>
    have e1 : rdOf 0 (takeFixed 1) ((x :: r).take 5, 0) = (x, (r.take 4, 0)) := by
      simp [rdOf, takeFixed, beVal_one]
    rw [e1]
    unfold szF szR
    have ha : at0 (x :: r) 0 = x := rfl
    rw [if_neg (by simp), ha]
    by_cases hx : x = 197
    · subst hx
      simp only [ne_eq, not_true_eq_false, if_false, and_false]
      by_cases h4 : r.length < 4
      · have e2 : rdOf 0 (takeFixed 4) (r.take 4, 0) = (0, (r.take 4, 20)) := by
          simp [rdOf, takeFixed, show min 4 r.length < 4 by omega]
        rw [if_pos (show (197 :: r).length < 5 by simp; omega), e2]
        rfl
      · have e2 : rdOf 0 (takeFixed 4) (r.take 4, 0) = (beVal (r.take 4), ([], 0)) := by
          simp [rdOf, takeFixed, show ¬ min 4 r.length < 4 by omega, List.take_take]
        rw [if_neg (show ¬ (197 :: r).length < 5 by simp; omega), e2]
        rfl
    · rw [if_pos hx, if_pos ⟨rfl, hx⟩]

theorem rdOf_lt {W : Nat} (hW : 0 < 256 ^ W) (s : List Nat × Nat) (h8 : All8 s.1) : (rdOf 0 (takeFixed W) s).1 < 256 ^ W := by
  unfold rdOf
  split
  · exact hW
  · cases ht : takeFixed W s.1 with
    | error c => exact hW
    | ok x => exact takeFixed_lt h8 ht

theorem Rst.all {w : World} {rp : Option Addr} {s : List Nat × Nat} (h : Rst w rp s) : All8 s.1 := by
  rcases h with ⟨_, rfl⟩ | ⟨p, _, _, h⟩
  · intro z hz; cases hz
  · exact h

theorem Read.row {A : Type} {val : A → Value} {rp : Option Addr} {w w' : World} {r : A × (List Nat × Nat)} {e : Ending} (h : Read val rp w r e w') {B : Nat} (hB : B ≤ w.heap.size) (hp : ∀ x, rp = some x → B ≤ x.block) : Below B w w' := by
  obtain ⟨_, _, hg⟩ := h
  exact (Below.refl _ _).grown hg hB (fun j e => by
    cases rp with
    | none => cases e
    | some x => cases e; exact hp x rfl)

set_option maxRecDepth 100000 in
set_option maxHeartbeats 800000 in
theorem sizeOf_any (a : Option Addr) (cap : Nat) (bs : List Nat) (w : World) (hr : RowB w a bs) (h8 : All8 bs) (hc : bs.length ≤ cap) (hm : cap ≤ maxLen) (hnil : a = none → bs.length = 0 ∧ cap = 0) :
    Calls Try.prog 26 #[.slice a bs.length cap] w fun e w' => e = .returned (.tuple #[.int .i64 (((szF bs).1 : Nat) : Int), .int .i64 (((szF bs).2 : Nat) : Int)]) ∧ Below w.heap.size w w' := by
  unfold maxLen at hm
  obtain ⟨H, hH⟩ : ∃ H, H = bs.take 5 := ⟨_, rfl⟩
  have hHl : H.length = min bs.length 5 := by rw [hH, List.length_take, Nat.min_comm]
  have hop := open_any a cap H w (by rw [hH]; exact (RowLt.of_row hr).take 5 |>.row) (by omega) (fun e => by have := hnil e; omega)
  have hH8 : All8 H := by rw [hH]; exact h8.take 5
  have hHc : H.length ≤ cap := by omega
  have hS : Hid (szF bs = szR (rdOf 0 (takeFixed 1) (H, 0))) := by rw [hH]; exact szF_eq h8
  have hx8 : (rdOf 0 (takeFixed 1) (H, 0)).1 < 256 := rdOf_lt (W := 1) (by decide) (H, 0) hH8
  clear hr hH
  obtain ⟨K, hK, hK5⟩ : ∃ K, K = H.length ∧ ((5 < (bs.length : Int) ∧ K = 5) ∨ ((bs.length : Int) ≤ 5 ∧ K = bs.length)) := ⟨_, rfl, by omega⟩
  rw [← hK] at hop
  clear hHl hK
  rcases hK5 with ⟨h5, rfl⟩ | ⟨h5, rfl⟩
  all_goals
    go_enter Try.func26, Try.ntmps26
    go_wp2_with (go_at_call 28; refine hop.mono ?_)
    rintro e w1 ⟨p, rfl, hp, hrd, hb1⟩
    have hs1 : Rst w1 (some ⟨p, 0, none⟩) (H, 0) := .inr ⟨p, rfl, hrd, hH8⟩
    have ht8 := take8 (some ⟨p, 0, none⟩) (H, 0) w1 hs1
    clear hop hrd hs1 hHc hH8
    generalize rdOf 0 (takeFixed 1) (H, 0) = r1 at *
    obtain ⟨x1, s1⟩ := r1
    have hz1 := hb1.size
    go_wp2_with fail
    refine ht8.mono ?_
    intro e w2 hrd1
    have hb2 := hb1.trans (hrd1.row hz1 (fun x e => by cases e; exact hp))
    obtain ⟨rfl, hs2, _⟩ := hrd1
    have hf2 := fault_st _ _ w2 hs2
    have ht2 := take32 _ _ w2 hs2
    have hx32 : (rdOf 0 (takeFixed 4) s1).1 < 4294967296 := rdOf_lt (W := 4) (by decide) s1 hs2.all
    obtain ⟨t1, f1⟩ := s1
    have hz2 := hb2.size
    dsimp only at hS hx8 hf2 ht2 hx32 hs2
    clear ht8 hs2
    go_wp2_with fail
    refine hf2.mono ?_
    rintro e w3 ⟨rfl, hq⟩
    have hq2 := hq.symm
    subst hq2
    clear hq hf2
    by_cases hA : f1 = 0 ∧ x1 ≠ 197
    · obtain ⟨rfl, hx⟩ := hA
      have hx' : ¬ (x1 : Int) = 197 := by omega
      have hS2 := hide_it (hS.out.trans (if_pos ⟨rfl, hx⟩))
      clear hS
      go_wp2_with fail
      go_ret2
      rw [hS2.out]
      exact ⟨rfl, hb2⟩
    · have hS2 := hide_it (hS.out.trans (if_neg hA))
      have hAB : (¬ (f1 : Int) = 0) ∨ ((f1 : Int) = 0 ∧ (x1 : Int) = 197) := by omega
      clear hS hA
      dsimp only at hS2
      generalize rdOf 0 (takeFixed 4) (t1, f1) = r2 at *
      obtain ⟨x2, t2, f2⟩ := r2
      dsimp only at hS2 hx32
      rcases hAB with hf | ⟨hf, hx⟩
      all_goals
        go_wp2_with fail
        refine ht2.mono ?_
        intro e w4 hrd2
        have hb4 := hb2.trans (hrd2.row hz2 (fun x e => by cases e; exact hp))
        obtain ⟨rfl, hs4, _⟩ := hrd2
        have hf4 := fault_st _ _ w4 hs4
        clear ht2 hs4
        go_wp2_with fail
        refine hf4.mono ?_
        rintro e w5 ⟨rfl, hq⟩
        have hq2 := hq.symm
        subst hq2
        clear hq hf4
        by_cases hB : f2 = 0
        · subst hB
          by_cases hC : 65536 < x2
          · have hC' : 65536 < (x2 : Int) := by omega
            have hS3 := hide_it (hS2.out.trans ((if_neg (by simp)).trans (if_pos hC)))
            clear hS2
            go_wp2_with fail
            go_ret2
            rw [hS3.out]
            exact ⟨rfl, hb4⟩
          · have hC' : ¬ 65536 < (x2 : Int) := by omega
            have hS3 := hide_it (hS2.out.trans ((if_neg (by simp)).trans (if_neg hC)))
            clear hS2
            go_wp2_with fail
            go_ret2
            rw [hS3.out]
            exact ⟨by simp, hb4⟩
        · have hB' : ¬ (f2 : Int) = 0 := by omega
          have hS3 := hide_it (hS2.out.trans (if_pos hB))
          clear hS2
          go_wp2_with fail
          go_ret2
          rw [hS3.out]
          exact ⟨rfl, hb4⟩

end Go.Proofs.Ytadceolgekbgmab
