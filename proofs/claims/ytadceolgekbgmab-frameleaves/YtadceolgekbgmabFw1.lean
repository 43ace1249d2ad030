/- The frame of a payload, walked: the program's Make, the document's Frame and Make. -/
import Derived.Test.YtadceolgekbgmabSm2
import Derived.Test.YtadceolgekbgmabFm1
namespace Go.Proofs.Ytadceolgekbgmab
open Go.RowKit

theorem wrap_u32 {n : Nat} (h : n < 4294967296) : IntKind.u32.wrap (n : Int) = (n : Int) := by
  rw [IntKind.wrap_u32']; omega

set_option maxRecDepth 100000 in
set_option maxHeartbeats 400000 in
theorem make_large (a : Option Addr) (n cap : Nat) (w : World) (hl : 65536 < n) (hm : n ≤ maxLen) :
    Calls Try.prog 10 #[.slice a n cap] w fun e w' => e = .returned (.tuple #[.slice none 0 0, .int .i64 3]) ∧ w' = w := by
  unfold maxLen at hm
  go_enter Try.func10, Try.ntmps10
  go_wp2
  go_ret2
  exact ⟨rfl, rfl⟩

set_option maxRecDepth 100000 in
set_option maxHeartbeats 800000 in
theorem make_ok (a : Option Addr) (cap : Nat) (p : List Nat) (w : World) (hr : RowB w a p) (h8 : All8 p) (hl : p.length ≤ 65536) (hnil : a = none → p.length = 0 ∧ cap = 0) :
    Calls Try.prog 10 #[.slice a p.length cap] w fun e w' => (∃ v, e = .returned (.tuple #[v, .int .i64 0]) ∧ OwnB w' w.heap.size v (frm p)) ∧ Below w.heap.size w w' := by
  have hb0 : Below w.heap.size w (w.alloc (.cells #[.int .u8 197] 5)) := (Below.refl _ _).alloc (Nat.le_refl _) _
  have hr0 : RowB (w.alloc (.cells #[.int .u8 197] 5)) (some ⟨w.heap.size, 0, none⟩) [197] := row_lit w [197]
  have hp := put32 (some ⟨w.heap.size, 0, none⟩) 1 p.length [197] _ (by omega) hr0 (by simp) (by simp)
  have hw32 := wrap_u32 (n := p.length) (by omega)
  have hrp := hr.below hb0
  have hs0 := hb0.size
  clear hr0 hr
  go_enter Try.func10, Try.ntmps10
  go_wp2_with (go_at_call 24; refine hp.mono ?_)
  rintro e w1 ⟨⟨v1, rfl, hown1⟩, hb1⟩
  have hbw1 := hb0.trans (hb1.mono hs0)
  have hown1' := hown1.mono hs0
  have hrp1 := hrp.below hb1
  have hs1 := hbw1.size
  have hl1 : ([197] ++ beP 4 p.length 4).length + p.length ≤ 140737488355328 := by simp [beP_len]; omega
  clear hp hown1 hrp
  go_wp2_with (at_builtin; refine wpList_append_row _ rfl _ _ rfl w.heap.size _ _ rfl hown1' a cap p rfl hrp1 hnil hl1 hs1 ?_; intro v2 w2 hown2 hg2 hat2)
  have hbw2 : Below w.heap.size w w2 := hbw1.grown hg2 hs1 (fun j e => hown1'.ge e)
  have hsm : OwnB w2 w.heap.size v2 (smd p) := by
    rw [show smd p = [197] ++ beP 4 p.length 4 ++ p by simp [smd, hdF]]
    exact hown2
  have hsl : (smd p).length ≤ 65541 := by rw [smd_len]; omega
  have hs8 := smd_all h8
  have HF := hide_it (show frm p = smd p ++ beP 4 (moreN 0 (smd p)) 4 from rfl)
  clear hown2 hg2 hat2 hown1' hrp1 hbw1 hl1 hb1
  generalize smd p = sm at *
  obtain ⟨a2, c2, rfl, hr2, _, _, hn2⟩ := hsm.row
  have hof := of_any a2 c2 sm w2 hr2 hs8 (by unfold maxLen; omega)
  have hs2 := hbw2.size
  clear hsm
  go_wp2_with fail
  refine hof.mono ?_
  rintro e w3 ⟨rfl, hb3⟩
  have hlt := sum_lt hs8
  have hput := put32 a2 c2 (moreN 0 sm) sm w3 hlt (hr2.below hb3) (by omega) hn2
  have hbw3 := hbw2.trans (hb3.mono hs2)
  generalize moreN 0 sm = S at *
  clear hof hr2
  go_wp2_with fail
  refine hput.mono ?_
  rintro e w4 ⟨⟨v4, rfl, hown4⟩, hb4⟩
  have hs3 := hbw3.size
  clear hput
  go_wp2_with fail
  go_ret2
  exact ⟨⟨v4, rfl, by rw [HF.out]; exact hown4.mono hs3⟩, hbw3.trans (hb4.mono hs3)⟩

set_option maxRecDepth 100000 in
set_option maxHeartbeats 400000 in
theorem four_any (n : Nat) (w : World) (hn : n < 4294967296) :
    Calls Try.prog 31 #[.int .u32 (n : Int)] w fun e w' => (∃ a, e = .returned (.slice a (beP 4 n 4).length 4) ∧ RowB w' a (beP 4 n 4) ∧ a ≠ none) ∧ Below w.heap.size w w' := by
  have e0 : IntKind.u8.wrap ((n : Int) / 16777216) = ((n / 256 ^ 3 % 256 : Nat) : Int) := by
    rw [show (n : Int) / 16777216 = ((n / 16777216 : Nat) : Int) by omega]; exact wrap_byte _
  have e1 : IntKind.u8.wrap ((n : Int) / 65536) = ((n / 256 ^ 2 % 256 : Nat) : Int) := by
    rw [show (n : Int) / 65536 = ((n / 65536 : Nat) : Int) by omega]; exact wrap_byte _
  have e2 : IntKind.u8.wrap ((n : Int) / 256) = ((n / 256 ^ 1 % 256 : Nat) : Int) := by
    rw [show (n : Int) / 256 = ((n / 256 : Nat) : Int) by omega, Nat.pow_one]; exact wrap_byte _
  have e3 : IntKind.u8.wrap (n : Int) = ((n / 256 ^ 0 % 256 : Nat) : Int) := by
    rw [Nat.pow_zero, Nat.div_one]; exact wrap_byte _
  have hrow := row_lit w (beP 4 n 4)
  have hbp : beP 4 n 4 = [n / 256 ^ 3 % 256, n / 256 ^ 2 % 256, n / 256 ^ 1 % 256, n / 256 ^ 0 % 256] := rfl
  generalize n / 256 ^ 3 % 256 = x0 at *
  generalize n / 256 ^ 2 % 256 = x1 at *
  generalize n / 256 ^ 1 % 256 = x2 at *
  generalize n / 256 ^ 0 % 256 = x3 at *
  rw [hbp] at hrow ⊢
  have HR := hide_it hrow
  clear hrow hbp
  go_enter Try.func31, Try.ntmps31
  go_wp2
  go_ret
  exact ⟨⟨_, rfl, HR.out, by simp⟩, (Below.refl _ _).alloc (Nat.le_refl _) _⟩

set_option maxRecDepth 100000 in
set_option maxHeartbeats 800000 in
theorem rframe_any (a : Option Addr) (cap : Nat) (p : List Nat) (w : World) (hr : RowB w a p) (h8 : All8 p) (hl : p.length ≤ 65536) (hnil : a = none → p.length = 0 ∧ cap = 0) :
    Calls Try.prog 20 #[.slice a p.length cap] w fun e w' => (∃ v, e = .returned v ∧ OwnB w' w.heap.size v (frm p)) ∧ Below w.heap.size w w' := by
  have hb0 : Below w.heap.size w (w.alloc (.cells #[.int .u8 197] 5)) := (Below.refl _ _).alloc (Nat.le_refl _) _
  have ho0 : OwnB (w.alloc (.cells #[.int .u8 197] 5)) w.heap.size (.slice (some ⟨w.heap.size, 0, none⟩) 1 1) [197] :=
    ⟨rfl, .inr ⟨_, _, _, rfl, Nat.le_refl _, heap_alloc_new w _, Nat.le_refl _, by unfold maxLen; omega, rfl, rfl⟩⟩
  have hf := four_any p.length (w.alloc (.cells #[.int .u8 197] 5)) (by omega)
  have hw32 := wrap_u32 (n := p.length) (by omega)
  have hs0 := hb0.size
  have hrow0 := hr
  have h4 : (beP 4 p.length 4).length ≤ 4 := by rw [beP_len]; omega
  have HS : Hid (smd p = [197] ++ beP 4 p.length 4 ++ p) := by show _ = _; simp [smd, hdF]
  generalize beP 4 p.length 4 = q4 at *
  have hl1 : ([197] : List Nat).length + q4.length ≤ 140737488355328 := by simp; omega
  have hl2 : ([197] ++ q4).length + p.length ≤ 140737488355328 := by simp; omega
  clear hr
  go_enter Try.func20, Try.ntmps20
  go_wp2_with (go_at_call 31; refine hf.mono ?_)
  rintro e w1 ⟨⟨a1, rfl, hr1, hn1⟩, hb1⟩
  have ho1 := ho0.below hb1
  have hbw1 := hb0.trans (hb1.mono hs0)
  have hs1 := hbw1.size
  clear hf ho0
  go_wp2_with (first | (at_builtin; refine wpList_append_row _ rfl _ _ rfl w.heap.size _ _ rfl ho1 a1 4 q4 rfl hr1 (fun e => absurd e hn1) hl1 hs1 ?_; intro v2 w2 hown2 hg2 hat2; have hbw2 : Below w.heap.size w w2 := hbw1.grown hg2 hs1 (fun j e => ho1.ge e); have hs2 := hbw2.size; have hrp2 := hrow0.below hbw2) | (at_builtin; refine wpList_append_row _ rfl _ _ rfl w.heap.size _ _ rfl hown2 a cap p rfl hrp2 hnil hl2 hs2 ?_; intro v3 w3 hown3 hg3 hat3))
  have hbw3 : Below w.heap.size w w3 := hbw2.grown hg3 hs2 (fun j e => hown2.ge e)
  have hsm : OwnB w3 w.heap.size v3 (smd p) := by rw [HS.out]; exact hown3
  have hsl : (smd p).length ≤ 65541 := by rw [smd_len]; omega
  have hs8 := smd_all h8
  have HF := hide_it (show frm p = smd p ++ beP 4 (moreN 0 (smd p)) 4 from rfl)
  clear hown3 hg3 hat3 hown2 hg2 hat2 HS ho1 hr1
  generalize smd p = sm at *
  obtain ⟨a3, c3, rfl, hr3, _, _, hn3⟩ := hsm.row
  have hof := rof_any a3 c3 sm w3 hr3 hs8 (by unfold maxLen; omega)
  have hs3 := hbw3.size
  go_wp2_with fail
  refine hof.mono ?_
  rintro e w4 ⟨rfl, hq⟩
  have hq2 := hq.symm
  subst hq2
  have hf4 := four_any (moreN 0 sm) w3 (sum_lt hs8)
  have h4' : (beP 4 (moreN 0 sm) 4).length ≤ 4 := by rw [beP_len]; omega
  generalize beP 4 (moreN 0 sm) 4 = s4 at *
  generalize moreN 0 sm = S at *
  clear hof hq hr3
  go_wp2_with fail
  refine hf4.mono ?_
  rintro e w5 ⟨⟨a5, rfl, hr5, hn5⟩, hb5⟩
  have hsm5 := hsm.below hb5
  have hbw5 := hbw3.trans (hb5.mono hs3)
  have hs5 := hbw5.size
  have hl5 : sm.length + s4.length ≤ 140737488355328 := by omega
  clear hf4 hsm
  go_wp2_with (at_builtin; refine wpList_append_row _ rfl _ _ rfl w.heap.size _ _ rfl hsm5 a5 4 s4 rfl hr5 (fun e => absurd e hn5) hl5 hs5 ?_; intro v6 w6 hown6 hg6 hat6)
  go_ret
  exact ⟨⟨v6, rfl, by rw [HF.out]; exact hown6⟩, hbw5.grown hg6 hs5 (fun j e => hsm5.ge e)⟩

end Go.Proofs.Ytadceolgekbgmab
