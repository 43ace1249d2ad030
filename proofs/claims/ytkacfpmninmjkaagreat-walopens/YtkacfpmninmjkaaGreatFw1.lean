/- The frame of a payload, walked: the program's Make, the document's Frame and Make. What bytes begin with, walked: the program's sizeOf and Read. What bytes begin with, walked: the program's Read. -/
import Derived.Test.YtkacfpmninmjkaaGreatSm2
import Derived.Test.YtkacfpmninmjkaaGreatFm1
namespace Go.Proofs.YtkacfpmninmjkaaGreat
open Go.RowKit

theorem wrap_u32 {n : Nat} (h : n < 4294967296) : IntKind.u32.wrap (n : Int) = (n : Int) := by
  rw [IntKind.wrap_u32']; omega

set_option maxRecDepth 100000 in
set_option maxHeartbeats 400000 in
theorem make_large (a : Option Addr) (n cap : Nat) (w : World) (hl : 65536 < n) (hm : n ≤ maxLen) :
    Calls Tryz.prog 78 #[.slice a n cap] w fun e w' => e = .returned (.tuple #[.slice none 0 0, .int .i64 3]) ∧ w' = w := by
  unfold maxLen at hm
  go_enter Tryz.func78, Tryz.ntmps78
  go_wp2
  go_ret2
  exact ⟨rfl, rfl⟩

set_option maxRecDepth 100000 in
set_option maxHeartbeats 800000 in
theorem make_ok (a : Option Addr) (cap : Nat) (p : List Nat) (w : World) (hr : RowB w a p) (h8 : All8 p) (hl : p.length ≤ 65536) (hnil : a = none → p.length = 0 ∧ cap = 0) :
    Calls Tryz.prog 78 #[.slice a p.length cap] w fun e w' => (∃ v, e = .returned (.tuple #[v, .int .i64 0]) ∧ OwnB w' w.heap.size v (frm p)) ∧ Below w.heap.size w w' := by
  have hb0 : Below w.heap.size w (w.alloc (.cells #[.int .u8 197] 5)) := (Below.refl _ _).alloc (Nat.le_refl _) _
  have hr0 : RowB (w.alloc (.cells #[.int .u8 197] 5)) (some ⟨w.heap.size, 0, none⟩) [197] := row_lit w [197]
  have hp := put32 (some ⟨w.heap.size, 0, none⟩) 1 p.length [197] _ (by omega) hr0 (by simp) (by simp)
  have hw32 := wrap_u32 (n := p.length) (by omega)
  have hrp := hr.below hb0
  have hs0 := hb0.size
  clear hr0 hr
  go_enter Tryz.func78, Tryz.ntmps78
  go_wp2_with (go_at_call 105; refine hp.mono ?_)
  rintro e w1 ⟨⟨v1, rfl, hown1⟩, hb1⟩
  have hbw1 := hb0.trans (hb1.mono hs0)
  have hown1' := hown1.mono hs0
  have hrp1 := hrp.below hb1
  have hs1 := hbw1.size
  have hl1 : ([197] ++ beP 4 p.length 4).length + p.length ≤ 140737488355328 := by simp [beP_len]; omega
  clear hp hown1 hrp
  go_wp2_with (at_builtin; refine wpList_append_row _ rfl _ _ rfl w.heap.size _ _ rfl hown1' a cap p rfl hrp1 hnil hl1 hs1 ?_; intro v2 w2 hown2 hg2 hat2)
  have hbw2 : Below w.heap.size w w2 := hbw1.grown hg2 hs1 (fun j e => hown1'.ge e)
  have hsm : OwnB w2 w.heap.size v2 (smd p) := by
    rw [show smd p = [197] ++ beP 4 p.length 4 ++ p by simp [smd, hdF]]
    exact hown2
  have hsl : (smd p).length ≤ 65541 := by rw [smd_len]; omega
  have hs8 := smd_all h8
  have HF := hide_it (show frm p = smd p ++ beP 4 (moreN 0 (smd p)) 4 from rfl)
  clear hown2 hg2 hat2 hown1' hrp1 hbw1 hl1 hb1
  generalize smd p = sm at *
  obtain ⟨a2, c2, rfl, hr2, _, _, hn2⟩ := hsm.row
  have hof := of_any a2 c2 sm w2 hr2 hs8 (by unfold maxLen; omega)
  have hs2 := hbw2.size
  clear hsm
  go_wp2_with fail
  refine hof.mono ?_
  rintro e w3 ⟨rfl, hb3⟩
  have hlt := sum_lt hs8
  have hput := put32 a2 c2 (moreN 0 sm) sm w3 hlt (hr2.below hb3) (by omega) hn2
  have hbw3 := hbw2.trans (hb3.mono hs2)
  generalize moreN 0 sm = S at *
  clear hof hr2
  go_wp2_with fail
  refine hput.mono ?_
  rintro e w4 ⟨⟨v4, rfl, hown4⟩, hb4⟩
  have hs3 := hbw3.size
  clear hput
  go_wp2_with fail
  go_ret2
  exact ⟨⟨v4, rfl, by rw [HF.out]; exact hown4.mono hs3⟩, hbw3.trans (hb4.mono hs3)⟩

set_option maxRecDepth 100000 in
set_option maxHeartbeats 400000 in
theorem four_any (n : Nat) (w : World) (hn : n < 4294967296) :
    Calls Tryz.prog 138 #[.int .u32 (n : Int)] w fun e w' => (∃ a, e = .returned (.slice a (beP 4 n 4).length 4) ∧ RowB w' a (beP 4 n 4) ∧ a ≠ none) ∧ Below w.heap.size w w' := by
  have e0 : IntKind.u8.wrap ((n : Int) / 16777216) = ((n / 256 ^ 3 % 256 : Nat) : Int) := by
    rw [show (n : Int) / 16777216 = ((n / 16777216 : Nat) : Int) by omega]; exact wrap_byte _
  have e1 : IntKind.u8.wrap ((n : Int) / 65536) = ((n / 256 ^ 2 % 256 : Nat) : Int) := by
    rw [show (n : Int) / 65536 = ((n / 65536 : Nat) : Int) by omega]; exact wrap_byte _
  have e2 : IntKind.u8.wrap ((n : Int) / 256) = ((n / 256 ^ 1 % 256 : Nat) : Int) := by
    rw [show (n : Int) / 256 = ((n / 256 : Nat) : Int) by omega, Nat.pow_one]; exact wrap_byte _
  have e3 : IntKind.u8.wrap (n : Int) = ((n / 256 ^ 0 % 256 : Nat) : Int) := by
    rw [Nat.pow_zero, Nat.div_one]; exact wrap_byte _
  have hrow := row_lit w (beP 4 n 4)
  have hbp : beP 4 n 4 = [n / 256 ^ 3 % 256, n / 256 ^ 2 % 256, n / 256 ^ 1 % 256, n / 256 ^ 0 % 256] := rfl
  generalize n / 256 ^ 3 % 256 = x0 at *
  generalize n / 256 ^ 2 % 256 = x1 at *
  generalize n / 256 ^ 1 % 256 = x2 at *
  generalize n / 256 ^ 0 % 256 = x3 at *
  rw [hbp] at hrow ⊢
  have HR := hide_it hrow
  clear hrow hbp
  go_enter Tryz.func138, Tryz.ntmps138
  go_wp2
  go_ret
  exact ⟨⟨_, rfl, HR.out, by simp⟩, (Below.refl _ _).alloc (Nat.le_refl _) _⟩

set_option maxRecDepth 100000 in
set_option maxHeartbeats 800000 in
theorem rframe_any (a : Option Addr) (cap : Nat) (p : List Nat) (w : World) (hr : RowB w a p) (h8 : All8 p) (hl : p.length ≤ 65536) (hnil : a = none → p.length = 0 ∧ cap = 0) :
    Calls Tryz.prog 116 #[.slice a p.length cap] w fun e w' => (∃ v, e = .returned v ∧ OwnB w' w.heap.size v (frm p)) ∧ Below w.heap.size w w' := by
  have hb0 : Below w.heap.size w (w.alloc (.cells #[.int .u8 197] 5)) := (Below.refl _ _).alloc (Nat.le_refl _) _
  have ho0 : OwnB (w.alloc (.cells #[.int .u8 197] 5)) w.heap.size (.slice (some ⟨w.heap.size, 0, none⟩) 1 1) [197] :=
    ⟨rfl, .inr ⟨_, _, _, rfl, Nat.le_refl _, heap_alloc_new w _, Nat.le_refl _, by unfold maxLen; omega, rfl, rfl⟩⟩
  have hf := four_any p.length (w.alloc (.cells #[.int .u8 197] 5)) (by omega)
  have hw32 := wrap_u32 (n := p.length) (by omega)
  have hs0 := hb0.size
  have hrow0 := hr
  have h4 : (beP 4 p.length 4).length ≤ 4 := by rw [beP_len]; omega
  have HS : Hid (smd p = [197] ++ beP 4 p.length 4 ++ p) := by show _ = _; simp [smd, hdF]
  generalize beP 4 p.length 4 = q4 at *
  have hl1 : ([197] : List Nat).length + q4.length ≤ 140737488355328 := by simp; omega
  have hl2 : ([197] ++ q4).length + p.length ≤ 140737488355328 := by simp; omega
  clear hr
  go_enter Tryz.func116, Tryz.ntmps116
  go_wp2_with (go_at_call 138; refine hf.mono ?_)
  rintro e w1 ⟨⟨a1, rfl, hr1, hn1⟩, hb1⟩
  have ho1 := ho0.below hb1
  have hbw1 := hb0.trans (hb1.mono hs0)
  have hs1 := hbw1.size
  clear hf ho0
  go_wp2_with (first | (at_builtin; refine wpList_append_row _ rfl _ _ rfl w.heap.size _ _ rfl ho1 a1 4 q4 rfl hr1 (fun e => absurd e hn1) hl1 hs1 ?_; intro v2 w2 hown2 hg2 hat2; have hbw2 : Below w.heap.size w w2 := hbw1.grown hg2 hs1 (fun j e => ho1.ge e); have hs2 := hbw2.size; have hrp2 := hrow0.below hbw2) | (at_builtin; refine wpList_append_row _ rfl _ _ rfl w.heap.size _ _ rfl hown2 a cap p rfl hrp2 hnil hl2 hs2 ?_; intro v3 w3 hown3 hg3 hat3))
  have hbw3 : Below w.heap.size w w3 := hbw2.grown hg3 hs2 (fun j e => hown2.ge e)
  have hsm : OwnB w3 w.heap.size v3 (smd p) := by rw [HS.out]; exact hown3
  have hsl : (smd p).length ≤ 65541 := by rw [smd_len]; omega
  have hs8 := smd_all h8
  have HF := hide_it (show frm p = smd p ++ beP 4 (moreN 0 (smd p)) 4 from rfl)
  clear hown3 hg3 hat3 hown2 hg2 hat2 HS ho1 hr1
  generalize smd p = sm at *
  obtain ⟨a3, c3, rfl, hr3, _, _, hn3⟩ := hsm.row
  have hof := rof_any a3 c3 sm w3 hr3 hs8 (by unfold maxLen; omega)
  have hs3 := hbw3.size
  go_wp2_with fail
  refine hof.mono ?_
  rintro e w4 ⟨rfl, hq⟩
  have hq2 := hq.symm
  subst hq2
  have hf4 := four_any (moreN 0 sm) w3 (sum_lt hs8)
  have h4' : (beP 4 (moreN 0 sm) 4).length ≤ 4 := by rw [beP_len]; omega
  generalize beP 4 (moreN 0 sm) 4 = s4 at *
  generalize moreN 0 sm = S at *
  clear hof hq hr3
  go_wp2_with fail
  refine hf4.mono ?_
  rintro e w5 ⟨⟨a5, rfl, hr5, hn5⟩, hb5⟩
  have hsm5 := hsm.below hb5
  have hbw5 := hbw3.trans (hb5.mono hs3)
  have hs5 := hbw5.size
  have hl5 : sm.length + s4.length ≤ 140737488355328 := by omega
  clear hf4 hsm
  go_wp2_with (at_builtin; refine wpList_append_row _ rfl _ _ rfl w.heap.size _ _ rfl hsm5 a5 4 s4 rfl hr5 (fun e => absurd e hn5) hl5 hs5 ?_; intro v6 w6 hown6 hg6 hat6)
  go_ret
  exact ⟨⟨v6, rfl, by rw [HF.out]; exact hown6⟩, hbw5.grown hg6 hs5 (fun j e => hsm5.ge e)⟩


set_option maxRecDepth 100000 in
set_option maxHeartbeats 400000 in
theorem rmake_large (a : Option Addr) (n cap : Nat) (w : World) (hl : 65536 < n) (hm : n ≤ maxLen) :
    Calls Tryz.prog 92 #[.slice a n cap] w fun e w' => e = .returned (.tuple #[.slice none 0 0, .int .i64 3]) ∧ w' = w := by
  unfold maxLen at hm
  go_enter Tryz.func92, Tryz.ntmps92
  go_wp2
  go_ret2
  exact ⟨rfl, rfl⟩

set_option maxRecDepth 100000 in
set_option maxHeartbeats 400000 in
theorem rmake_ok (a : Option Addr) (cap : Nat) (p : List Nat) (w : World) (hr : RowB w a p) (h8 : All8 p) (hl : p.length ≤ 65536) (hnil : a = none → p.length = 0 ∧ cap = 0) :
    Calls Tryz.prog 92 #[.slice a p.length cap] w fun e w' => (∃ v, e = .returned (.tuple #[v, .int .i64 0]) ∧ OwnB w' w.heap.size v (frm p)) ∧ Below w.heap.size w w' := by
  have hf := rframe_any a cap p w hr h8 hl hnil
  clear hr
  go_enter Tryz.func92, Tryz.ntmps92
  go_wp2_with fail
  refine hf.mono ?_
  rintro e w1 ⟨⟨v, rfl, hown⟩, hb⟩
  clear hf
  go_wp2_with fail
  go_ret2
  exact ⟨⟨v, rfl, hown⟩, hb⟩


end Go.Proofs.YtkacfpmninmjkaaGreat

namespace Go.Proofs.YtkacfpmninmjkaaGreat
open Go.RowKit

/-- How many bytes a frame has with whose head bytes begin, or the error. -/
def szF (bs : List Nat) : Nat × Nat :=
  if bs.length = 0 then (0, 20)
  else if at0 bs 0 ≠ 197 then (0, 90)
  else if bs.length < 5 then (0, 20)
  else if 65536 < lnF bs then (0, 3)
  else (5 + lnF bs + 4, 0)

/-- The same, as a reader tells it. -/
def szR (r1 : Nat × (List Nat × Nat)) : Nat × Nat :=
  if r1.2.2 = 0 ∧ r1.1 ≠ 197 then (0, 90) else
  let r2 := rdOf 0 (takeFixed 4) r1.2
  if r2.2.2 ≠ 0 then (0, r2.2.2) else if 65536 < r2.1 then (0, 3) else (5 + r2.1 + 4, 0)

theorem beVal_one (x : Nat) : beVal [x] = x := by simp [beVal]

theorem szF_eq {bs : List Nat} (h8 : All8 bs) : szF bs = szR (rdOf 0 (takeFixed 1) (bs.take 5, 0)) := by
  cases bs with
  | nil => rfl
  | cons x r =>
    have e1 : rdOf 0 (takeFixed 1) ((x :: r).take 5, 0) = (x, (r.take 4, 0)) := by
      simp [rdOf, takeFixed, beVal_one]
    rw [e1]
    unfold szF szR
    have ha : at0 (x :: r) 0 = x := rfl
    rw [if_neg (by simp), ha]
    by_cases hx : x = 197
    · subst hx
      simp only [ne_eq, not_true_eq_false, if_false, and_false]
      by_cases h4 : r.length < 4
      · have e2 : rdOf 0 (takeFixed 4) (r.take 4, 0) = (0, (r.take 4, 20)) := by
          simp [rdOf, takeFixed, show min 4 r.length < 4 by omega]
        rw [if_pos (show (197 :: r).length < 5 by simp; omega), e2]
        rfl
      · have e2 : rdOf 0 (takeFixed 4) (r.take 4, 0) = (beVal (r.take 4), ([], 0)) := by
          simp [rdOf, takeFixed, show ¬ min 4 r.length < 4 by omega, List.take_take]
        rw [if_neg (show ¬ (197 :: r).length < 5 by simp; omega), e2]
        rfl
    · rw [if_pos hx, if_pos ⟨rfl, hx⟩]

theorem rdOf_lt {W : Nat} (hW : 0 < 256 ^ W) (s : List Nat × Nat) (h8 : All8 s.1) : (rdOf 0 (takeFixed W) s).1 < 256 ^ W := by
  unfold rdOf
  split
  · exact hW
  · cases ht : takeFixed W s.1 with
    | error c => exact hW
    | ok x => exact takeFixed_lt h8 ht

theorem Read.row {A : Type} {val : A → Value} {rp : Option Addr} {w w' : World} {r : A × (List Nat × Nat)} {e : Ending} (h : Read val rp w r e w') {B : Nat} (hB : B ≤ w.heap.size) (hp : ∀ x, rp = some x → B ≤ x.block) : Below B w w' := by
  obtain ⟨_, _, hg⟩ := h
  exact (Below.refl _ _).grown hg hB (fun j e => by
    cases rp with
    | none => cases e
    | some x => cases e; exact hp x rfl)

set_option maxRecDepth 100000 in
set_option maxHeartbeats 800000 in
theorem sizeOf_any (a : Option Addr) (cap : Nat) (bs : List Nat) (w : World) (hr : RowB w a bs) (h8 : All8 bs) (hc : bs.length ≤ cap) (hm : cap ≤ maxLen) (hnil : a = none → bs.length = 0 ∧ cap = 0) :
    Calls Tryz.prog 107 #[.slice a bs.length cap] w fun e w' => e = .returned (.tuple #[.int .i64 (((szF bs).1 : Nat) : Int), .int .i64 (((szF bs).2 : Nat) : Int)]) ∧ Below w.heap.size w w' := by
  unfold maxLen at hm
  obtain ⟨H, hH⟩ : ∃ H, H = bs.take 5 := ⟨_, rfl⟩
  have hHl : H.length = min bs.length 5 := by rw [hH, List.length_take, Nat.min_comm]
  have hop := open_any a cap H w (by rw [hH]; exact (RowLt.of_row hr).take 5 |>.row) (by omega) (fun e => by have := hnil e; omega)
  have hH8 : All8 H := by rw [hH]; exact h8.take 5
  have hHc : H.length ≤ cap := by omega
  have hS : Hid (szF bs = szR (rdOf 0 (takeFixed 1) (H, 0))) := by rw [hH]; exact szF_eq h8
  have hx8 : (rdOf 0 (takeFixed 1) (H, 0)).1 < 256 := rdOf_lt (W := 1) (by decide) (H, 0) hH8
  clear hr hH
  obtain ⟨K, hK, hK5⟩ : ∃ K, K = H.length ∧ ((5 < (bs.length : Int) ∧ K = 5) ∨ ((bs.length : Int) ≤ 5 ∧ K = bs.length)) := ⟨_, rfl, by omega⟩
  rw [← hK] at hop
  clear hHl hK
  rcases hK5 with ⟨h5, rfl⟩ | ⟨h5, rfl⟩
  all_goals
    go_enter Tryz.func107, Tryz.ntmps107
    go_wp2_with (go_at_call 82; refine hop.mono ?_)
    rintro e w1 ⟨p, rfl, hp, hrd, hb1⟩
    have hs1 : Rst w1 (some ⟨p, 0, none⟩) (H, 0) := .inr ⟨p, rfl, hrd, hH8⟩
    have ht8 := take8 (some ⟨p, 0, none⟩) (H, 0) w1 hs1
    clear hop hrd hs1 hHc hH8
    generalize rdOf 0 (takeFixed 1) (H, 0) = r1 at *
    obtain ⟨x1, s1⟩ := r1
    have hz1 := hb1.size
    go_wp2_with fail
    refine ht8.mono ?_
    intro e w2 hrd1
    have hb2 := hb1.trans (hrd1.row hz1 (fun x e => by cases e; exact hp))
    obtain ⟨rfl, hs2, _⟩ := hrd1
    have hf2 := fault_st _ _ w2 hs2
    have ht2 := take32 _ _ w2 hs2
    have hx32 : (rdOf 0 (takeFixed 4) s1).1 < 4294967296 := rdOf_lt (W := 4) (by decide) s1 hs2.all
    obtain ⟨t1, f1⟩ := s1
    have hz2 := hb2.size
    dsimp only at hS hx8 hf2 ht2 hx32 hs2
    clear ht8 hs2
    go_wp2_with fail
    refine hf2.mono ?_
    rintro e w3 ⟨rfl, hq⟩
    have hq2 := hq.symm
    subst hq2
    clear hq hf2
    by_cases hA : f1 = 0 ∧ x1 ≠ 197
    · obtain ⟨rfl, hx⟩ := hA
      have hx' : ¬ (x1 : Int) = 197 := by omega
      have hS2 := hide_it (hS.out.trans (if_pos ⟨rfl, hx⟩))
      clear hS
      go_wp2_with fail
      go_ret2
      rw [hS2.out]
      exact ⟨rfl, hb2⟩
    · have hS2 := hide_it (hS.out.trans (if_neg hA))
      have hAB : (¬ (f1 : Int) = 0) ∨ ((f1 : Int) = 0 ∧ (x1 : Int) = 197) := by omega
      clear hS hA
      dsimp only at hS2
      generalize rdOf 0 (takeFixed 4) (t1, f1) = r2 at *
      obtain ⟨x2, t2, f2⟩ := r2
      dsimp only at hS2 hx32
      rcases hAB with hf | ⟨hf, hx⟩
      all_goals
        go_wp2_with fail
        refine ht2.mono ?_
        intro e w4 hrd2
        have hb4 := hb2.trans (hrd2.row hz2 (fun x e => by cases e; exact hp))
        obtain ⟨rfl, hs4, _⟩ := hrd2
        have hf4 := fault_st _ _ w4 hs4
        clear ht2 hs4
        go_wp2_with fail
        refine hf4.mono ?_
        rintro e w5 ⟨rfl, hq⟩
        have hq2 := hq.symm
        subst hq2
        clear hq hf4
        by_cases hB : f2 = 0
        · subst hB
          by_cases hC : 65536 < x2
          · have hC' : 65536 < (x2 : Int) := by omega
            have hS3 := hide_it (hS2.out.trans ((if_neg (by simp)).trans (if_pos hC)))
            clear hS2
            go_wp2_with fail
            go_ret2
            rw [hS3.out]
            exact ⟨rfl, hb4⟩
          · have hC' : ¬ 65536 < (x2 : Int) := by omega
            have hS3 := hide_it (hS2.out.trans ((if_neg (by simp)).trans (if_neg hC)))
            clear hS2
            go_wp2_with fail
            go_ret2
            rw [hS3.out]
            exact ⟨by simp, hb4⟩
        · have hB' : ¬ (f2 : Int) = 0 := by omega
          have hS3 := hide_it (hS2.out.trans (if_pos hB))
          clear hS2
          go_wp2_with fail
          go_ret2
          rw [hS3.out]
          exact ⟨rfl, hb4⟩

end Go.Proofs.YtkacfpmninmjkaaGreat

namespace Go.Proofs.YtkacfpmninmjkaaGreat
open Go.RowKit

/-- What Read answers. -/
def RdTo (bs : List Nat) (base : Nat) (w' : World) (e : Ending) : Except Nat Nat → Prop
  | .error c => e = .returned (.tuple #[.slice none 0 0, .int .i64 0, .int .i64 (c : Int)])
  | .ok n => ∃ v, e = .returned (.tuple #[v, .int .i64 ((n + 9 : Nat) : Int), .int .i64 0]) ∧ OwnB w' base v ((bs.drop 5).take n)

theorem szF_err {bs : List Nat} (h : (szF bs).2 ≠ 0) : rdF bs = .error (szF bs).2 := by
  unfold szF at *
  unfold rdF
  by_cases h1 : bs.length = 0
  · rw [if_pos h1]; rw [if_pos h1]
  rw [if_neg h1] at h ⊢
  rw [if_neg h1]
  by_cases h2 : at0 bs 0 ≠ 197
  · rw [if_pos h2]; rw [if_pos h2]
  rw [if_neg h2] at h ⊢
  rw [if_neg h2]
  by_cases h3 : bs.length < 5
  · rw [if_pos h3]; rw [if_pos h3]
  rw [if_neg h3] at h ⊢
  rw [if_neg h3]
  by_cases h4 : 65536 < lnF bs
  · rw [if_pos h4]; rw [if_pos h4]
  rw [if_neg h4] at h
  exact absurd rfl h
theorem szF_ok {bs : List Nat} (h : (szF bs).2 = 0) : (szF bs).1 = lnF bs + 5 + 4 ∧ lnF bs ≤ 65536 ∧ 5 ≤ bs.length ∧
    rdF bs = if bs.length < lnF bs + 9 then .error 20 else if beVal ((bs.drop (lnF bs + 5)).take 4) ≠ moreN 0 (bs.take (lnF bs + 5)) then .error 91 else .ok (lnF bs) := by
  unfold szF at *
  unfold rdF
  by_cases h1 : bs.length = 0
  · rw [if_pos h1] at h; cases h
  rw [if_neg h1] at h
  rw [if_neg h1, if_neg h1]
  by_cases h2 : at0 bs 0 ≠ 197
  · rw [if_pos h2] at h; cases h
  rw [if_neg h2] at h
  rw [if_neg h2, if_neg h2]
  by_cases h3 : bs.length < 5
  · rw [if_pos h3] at h; cases h
  rw [if_neg h3] at h
  rw [if_neg h3, if_neg h3]
  by_cases h4 : 65536 < lnF bs
  · rw [if_pos h4] at h; cases h
  rw [if_neg h4, if_neg h4]
  exact ⟨by show 5 + lnF bs + 4 = _; omega, by omega, by omega, rfl⟩

theorem RowB.cut {w : World} {b o : Nat} {zs : List Nat} (h : RowB w (some ⟨b, o, none⟩) zs) (i n : Nat) : RowB w (some ⟨b, o + i, none⟩) ((zs.drop i).take n) := by
  have := ((RowLt.of_row h).drop i).take n |>.row
  rwa [Option.map_some, Addr.add_lit] at this

set_option maxRecDepth 100000 in
set_option maxHeartbeats 800000 in
theorem read_any (a : Option Addr) (cap : Nat) (bs : List Nat) (w : World) (hr : RowB w a bs) (h8 : All8 bs) (hc : bs.length ≤ cap) (hm : cap ≤ maxLen) (hnil : a = none → bs.length = 0 ∧ cap = 0) :
    Calls Tryz.prog 81 #[.slice a bs.length cap] w fun e w' => RdTo bs w.heap.size w' e (rdF bs) ∧ Below w.heap.size w w' := by
  have hsz := sizeOf_any a cap bs w hr h8 hc hm hnil
  unfold maxLen at hm
  by_cases hcd : (szF bs).2 ≠ 0
  · rw [szF_err hcd]
    generalize szF bs = z at *
    obtain ⟨N, c⟩ := z
    have hcd' : ¬ (c : Int) = 0 := by simpa using hcd
    clear hr
    go_enter Tryz.func81, Tryz.ntmps81
    go_wp2_with fail
    refine hsz.mono ?_
    rintro e w1 ⟨rfl, hb1⟩
    clear hsz
    go_wp2_with fail
    go_ret3
    exact ⟨rfl, hb1⟩
  · obtain ⟨e1, hn, h5, e2⟩ := szF_ok (Decidable.not_not.1 hcd)
    rw [Decidable.not_not.1 hcd, e1] at hsz
    clear hcd e1
    obtain ⟨b, o, rfl, hblt, _⟩ := hr.here (i := 0) (by omega)
    obtain ⟨n, hnn⟩ : ∃ n, n = lnF bs := ⟨_, rfl⟩
    rw [← hnn] at e2 hn hsz
    rw [e2]
    clear hnn e2 hnil
    obtain ⟨M, hM⟩ : ∃ M, M = n + 5 := ⟨_, rfl⟩
    rw [← hM] at hsz ⊢
    have hMl : M ≤ 65541 := by omega
    have hM5 : 5 ≤ M := by omega
    have HM := hide_it hM
    by_cases hcut : bs.length < n + 9
    · have hcut' : (bs.length : Int) < (M : Int) + 4 := by omega
      rw [if_pos hcut]
      clear hM
      go_enter Tryz.func81, Tryz.ntmps81
      go_wp2_with fail
      refine hsz.mono ?_
      rintro e w1 ⟨rfl, hb1⟩
      clear hsz
      go_wp2_with fail
      go_ret3
      exact ⟨rfl, hb1⟩
    · have hcut' : ¬ (bs.length : Int) < (M : Int) + 4 := by omega
      rw [if_neg hcut]
      obtain ⟨S4, hS4⟩ : ∃ S4, S4 = (bs.drop M).take 4 := ⟨_, rfl⟩
      obtain ⟨Sm, hSm⟩ : ∃ Sm, Sm = bs.take M := ⟨_, rfl⟩
      obtain ⟨Py, hPy⟩ : ∃ Py, Py = (bs.drop 5).take n := ⟨_, rfl⟩
      have hS4r : RowB w (some ⟨b, o + M, none⟩) S4 := by rw [hS4]; exact hr.cut M 4
      have hSmr : RowB w (some ⟨b, o, none⟩) Sm := by rw [hSm]; have := hr.cut 0 M; rwa [List.drop_zero, Nat.add_zero] at this
      have hPyr : RowB w (some ⟨b, o + 5, none⟩) Py := by rw [hPy]; exact hr.cut 5 n
      have hS4l : S4.length = 4 := by rw [hS4]; simp; omega
      have hSml : Sm.length = M := by rw [hSm]; simp; omega
      have hPyl : Py.length = n := by rw [hPy]; simp; omega
      have hS48 : All8 S4 := by rw [hS4]; exact (h8.drop _).take _
      have hSm8 : All8 Sm := by rw [hSm]; exact h8.take _
      have hcM : ¬ cap = M := by omega
      have hc5 : ¬ cap = 5 := by omega
      have hMc : M + 4 ≤ cap := by omega
      have HPy := hide_it hPy
      rw [← hS4, ← hSm]
      obtain ⟨R, hR⟩ : ∃ R : Except Nat Nat, R = if beVal S4 ≠ moreN 0 Sm then .error 91 else .ok n := ⟨_, rfl⟩
      rw [← hR]
      replace hR := hide_it hR
      clear hS4 hSm hPy hr h8 hM hcut
      go_enter Tryz.func81, Tryz.ntmps81
      go_wp2_with fail
      refine hsz.mono ?_
      rintro e w1 ⟨rfl, hb1⟩
      clear hsz
      go_wp2_with fail
      go_quiet (fail)
      go_wp2_with fail
      obtain ⟨u, hu⟩ : ∃ u, u = w1.drewN nq := ⟨_, rfl⟩
      have hbu : Below w.heap.size w u := by rw [hu]; exact below_drewN hb1 nq
      rw [← hu]
      have hzu := hbu.size
      have hop := open_any (some ⟨b, o + M, none⟩) (cap - M) S4 u (hS4r.below hbu) (by omega) (by simp)
      rw [hS4l] at hop
      have hr4 : rdOf 0 (takeFixed 4) (S4, 0) = (beVal S4, ([], 0)) := by
        simp [rdOf, takeFixed, hS4l, List.take_of_length_le (Nat.le_of_eq hS4l), List.drop_eq_nil_of_le (Nat.le_of_eq hS4l)]
      have hX : beVal S4 < 4294967296 := by have := beVal_bound hS48; rwa [hS4l] at this
      clear hu hb1 hS4r
      refine hop.mono ?_
      rintro e w2 ⟨p, rfl, hp, hrd, hb2⟩
      have ht := take32 (some ⟨p, 0, none⟩) (S4, 0) w2 (.inr ⟨p, rfl, hrd, hS48⟩)
      rw [hr4] at ht
      have hbw2 := hbu.trans (hb2.mono hzu)
      have hz2 := hbw2.size
      clear hop hrd hr4 hS48 hS4l
      generalize beVal S4 = X at *
      go_wp2_with fail
      refine ht.mono ?_
      intro e w3 hrd3
      have hbw3 := hbw2.trans (hrd3.row (B := w.heap.size) hz2 (fun x e => by cases e; exact Nat.le_trans hzu hp))
      obtain ⟨rfl, _, _⟩ := hrd3
      have hof := of_any (some ⟨b, o, none⟩) cap Sm w3 (hSmr.below hbw3) hSm8 (by unfold maxLen; omega)
      rw [hSml] at hof
      have hz3 := hbw3.size
      clear ht hSm8 hSml
      generalize moreN 0 Sm = Y at *
      go_wp2_with fail
      refine hof.mono ?_
      rintro e w4 ⟨rfl, hb4⟩
      have hbw4 := hbw3.trans (hb4.mono hz3)
      have hz4 := hbw4.size
      clear hof hSmr
      by_cases hXY : X ≠ Y
      · have hXY' : ¬ (X : Int) = (Y : Int) := by omega
        go_wp2_with fail
        go_ret3
        rw [hR.out, if_pos hXY]
        exact ⟨rfl, hbw4⟩
      · have hXY' : (X : Int) = (Y : Int) := by omega
        have hcl := clone_any (some ⟨b, o + 5, none⟩) (cap - 5) Py w4 (hPyr.below hbw4) (by omega) (by simp)
        rw [show Py.length = M - 5 by rw [hPyl]; have := HM.out; omega] at hcl
        clear hPyr hPyl
        go_wp2_with fail
        refine hcl.mono ?_
        rintro e w5 ⟨⟨v, rfl, hown⟩, hb5⟩
        clear hcl
        go_wp2_with fail
        go_ret3
        rw [hR.out, if_neg hXY]
        refine ⟨⟨v, ?_, ?_⟩, hbw4.trans (hb5.mono hz4)⟩
        · rw [show ((n + 9 : Nat) : Int) = (M : Int) + 4 by have := HM.out; omega]
          rfl
        · rw [← HPy.out]; exact hown.mono hz4

end Go.Proofs.YtkacfpmninmjkaaGreat
