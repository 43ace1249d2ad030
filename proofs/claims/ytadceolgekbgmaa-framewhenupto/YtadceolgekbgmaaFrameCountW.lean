/- The law on Count, walked. -/
import Derived.Test.YtadceolgekbgmaaFh1
import Derived.Test.YtadceolgekbgmaaFd1
import Derived.Test.YtadceolgekbgmaaFi2
import Derived.Test.YtadceolgekbgmaaOpenB
namespace Go.Proofs.Ytadceolgekbgmaa
open Go.RowKit

/-- The document's list, thing by thing. -/
theorem DocF.at {w : World} {base : Nat} {v : Value} {xs : List Hand} (h : DocF w base v xs) : ∃ a cap, v = .slice a xs.length cap ∧ xs.length ≤ cap ∧ cap ≤ maxLen ∧
    ∀ i x, xs[i]? = some x → ∃ g o, a = some ⟨g, o, none⟩ ∧ base ≤ g ∧ g < w.heap.size ∧ w.cell? ⟨g, o + i * 2, none⟩ = some (.int .i64 (x.1 : Int)) ∧ w.cell? ⟨g, o + i * 2 + 1, none⟩ = some x.2.1 := by
  rcases h.list.2 with ⟨rfl, h0⟩ | ⟨g, o, cap, cur, rfl, hb, hh, hn, hc, hs, ht⟩
  · refine ⟨none, 0, by rw [h0], by omega, by simp [maxLen], fun i x hx => ?_⟩
    have := (List.getElem?_eq_some_iff.1 hx).1
    omega
  · refine ⟨_, cap, rfl, hn, hc, fun i x hx => ⟨g, o, rfl, hb, (Array.getElem?_eq_some_iff.1 hh).1, ?_, ?_⟩⟩
    · have hi := (List.getElem?_eq_some_iff.1 hx).1
      rw [cell_of_row _ _ _ _ _ _ hh, ht (i * 2) (by rw [celF_len]; omega)]
      exact (celF_at xs i x hx).1
    · have hi := (List.getElem?_eq_some_iff.1 hx).1
      rw [cell_of_row _ _ _ _ _ _ hh, Nat.add_assoc, ht (i * 2 + 1) (by rw [celF_len]; omega)]
      exact (celF_at xs i x hx).2
end Go.Proofs.Ytadceolgekbgmaa

namespace Go.Proofs.Ytadceolgekbgmaa.frameCount
open Go.RowKit

set_option maxRecDepth 100000 in
set_option maxHeartbeats 2000000 in
theorem walk (a : Option Addr) (cap : Nat) (zs : List Nat) (w : World) (hc : Came8 w a cap zs) (hs : zs.length ≤ 1048576) :
    Calls Try.prog 8 #[.slice a zs.length cap] w fun e w' => e = .returned (.bool true) ∧ Below w.heap.size w w' := by
  have hl : zs.length ≤ 140737488355328 := by omega
  have hnil := hc.none
  have h8 := hc.all
  have hr := hc.row
  have hcp := copied_any a cap zs w hr hl hnil
  clear hc
  go_enter Try.func8, Try.ntmps8
  go_wp2_with fail
  refine hcp.mono ?_
  rintro e w1 ⟨⟨r1, rfl, ho1⟩, hb1⟩
  obtain ⟨p1, q1, hv1, hp1, hl1, hm1, hn1⟩ := ho1.row
  subst hv1
  have hrd := rall_any p1 q1 zs w1 hp1 h8 hl1 hm1 hs hn1
  have hrw1 := hr.below hb1
  have hz1 := hb1.size
  clear ho1 hcp hr hp1
  go_wp2_with fail
  refine hrd.mono ?_
  rintro e w2 ⟨⟨v2, xs, rfl, hxs, hD⟩, hb2⟩
  obtain ⟨a2, c2, rfl, hxc, hcm, hat⟩ := hD.at
  have hcp2 := copied_any a cap zs w2 (hrw1.below hb2) hl hnil
  have hbw2 := hb1.trans (hb2.mono hz1)
  have hz2 := hbw2.size
  have hcnt : ∀ p3 q3 w3, RowB w3 p3 zs → (p3 = none → zs.length = 0 ∧ q3 = 0) → Calls Try.prog 18 #[.slice p3 zs.length q3] w3 fun e w' => e = .returned (.tuple #[.int .i64 ((xs.length : Nat) : Int), .int .i64 ((lastE (xs.map tl) : Nat) : Int)]) ∧ Below w3.heap.size w3 w' := fun p3 q3 w3 h1 h2 => by
    have := count_any p3 q3 zs w3 h1 h8 hl h2
    rw [← hxs, List.length_map] at this
    exact this
  unfold maxLen at hcm
  clear hrd hrw1 hxs hD
  by_cases h0 : xs = []
  · subst h0
    clear hat
    go_wp2_with fail
    refine hcp2.mono ?_
    rintro e w3 ⟨⟨r3, rfl, ho3⟩, hb3⟩
    obtain ⟨p3, q3, hv3, hp3, hl3, hm3, hn3⟩ := ho3.row
    subst hv3
    have hrd := hcnt p3 q3 w3 hp3 hn3
    have hbw3 := hbw2.trans (hb3.mono hz2)
    have hz3 := hbw3.size
    clear ho3 hcp2 hp3 hcnt
    go_wp2_with fail
    refine hrd.mono ?_
    rintro e w4 ⟨rfl, hb4⟩
    have hbw4 := hbw3.trans (hb4.mono hz3)
    have hz4 := hbw4.size
    go_wp2_with fail
    refine (head_any _).mono ?_
    rintro e w5 ⟨rfl, hb5⟩
    go_wp2_with fail
    go_ret
    exact ⟨rfl, hbw4.trans (hb5.mono hz4)⟩
  · obtain ⟨ys, x, rfl⟩ : ∃ ys x, xs = ys ++ [x] := ⟨_, _, (List.dropLast_concat_getLast h0).symm⟩
    obtain ⟨g, o, rfl, _, _, hc0, _⟩ := hat ys.length x (by simp)
    rw [List.map_append, show List.map tl [x] = [tl x] from rfl, lastE_snoc, List.length_append, List.length_singleton] at hcnt
    rw [List.length_append, List.length_singleton] at hxc ⊢
    obtain ⟨N, hN⟩ : ∃ N, N = ys.length := ⟨_, rfl⟩
    rw [← hN] at hc0 hcnt hxc ⊢
    have hT : (tl x).1 = x.1 := rfl
    rw [hT] at hcnt
    generalize x.1 = E at *
    clear hat h0 hN hT
    go_wp2_with fail
    refine hcp2.mono ?_
    rintro e w3 ⟨⟨r3, rfl, ho3⟩, hb3⟩
    obtain ⟨p3, q3, hv3, hp3, hl3, hm3, hn3⟩ := ho3.row
    subst hv3
    have hrd := hcnt p3 q3 w3 hp3 hn3
    have hbw3 := hbw2.trans (hb3.mono hz2)
    have hz3 := hbw3.size
    clear ho3 hcp2 hp3 hcnt hc0
    go_wp2_with fail
    refine hrd.mono ?_
    rintro e w4 ⟨rfl, hb4⟩
    have hbw4 := hbw3.trans (hb4.mono hz3)
    have hz4 := hbw4.size
    go_wp2_with fail
    refine (head_any _).mono ?_
    rintro e w5 ⟨rfl, hb5⟩
    go_wp2_with fail
    go_ret
    exact ⟨by simp, hbw4.trans (hb5.mono hz4)⟩
end Go.Proofs.Ytadceolgekbgmaa.frameCount
