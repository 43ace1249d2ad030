/- The law on two chains in turns, walked. -/
import Derived.Test.YtncmnhomloanaaaHq1
namespace Go.Proofs.Ytncmnhomloanaaa.chainBeside
open Go.RowKit

/-- Two pairs that are apart. -/
structure Both (w wr : World) (q1 p1 : Nat) (xs : List Lk) (q2 p2 : Nat) (ys : List Lk) : Prop where
  two : ∃ F1 F2 v1 d1 v2 d2, Pr wr F1 q1 p1 v1 d1 xs ∧ Pr wr F2 q2 p2 v2 d2 ys ∧ (∀ j, F1 j → ¬ F2 j) ∧ (∀ j, F1 j → w.heap.size ≤ j) ∧ (∀ j, F2 j → w.heap.size ≤ j)
  bel : Below w.heap.size w wr
theorem Both.swap {w wr : World} {q1 p1 q2 p2 : Nat} {xs ys : List Lk} (h : Both w wr q1 p1 xs q2 p2 ys) : Both w wr q2 p2 ys q1 p1 xs := by
  obtain ⟨F1, F2, v1, d1, v2, d2, h1, h2, h3, h4, h5⟩ := h.two
  exact ⟨⟨F2, F1, v2, d2, v1, d1, h2, h1, fun j a b => h3 j b a, h5, h4⟩, h.bel⟩
theorem Both.call {w wr : World} {q1 p1 q2 p2 : Nat} {xs ys : List Lk} (h : Both w wr q1 p1 xs q2 p2 ys) (hl : xs.length ≤ 3600000000000) (s : Stc) (hs : -9223372036854775808 ≤ s.n ∧ s.n ≤ 9223372036854775807) :
    Calls Try.prog 10 #[.pointer (some ⟨q1, 0, none⟩), .agg #[.int .i64 s.k, .int .i64 s.n, .string s.v, .bool s.d]] wr fun e w' => e = .returned (.bool true) ∧ Both w w' q1 p1 (nxt xs s) q2 p2 ys := by
  obtain ⟨F1, F2, v1, d1, v2, d2, h1, h2, h3, h4, h5⟩ := h.two
  refine (step_any h1 hl s hs).mono fun e w' ⟨he, k⟩ => ⟨he, ?_⟩
  obtain ⟨v, d, hp⟩ := k.pr
  have hz := h.bel.size
  refine ⟨⟨_, F2, v, d, v2, d2, hp, h2.keep (fun j hj => k.chg.block j (h2.lt j hj) fun h6 => h3 j h6 hj) k.chg.size, fun j hj hj2 => ?_, fun j hj => ?_, h5⟩, h.bel.trans (k.chg.below h4 hz)⟩
  · rcases hj with hj | hj
    · exact h3 j hj hj2
    · have := h2.lt j hj2; omega
  · rcases hj with hj | hj
    · exact h4 j hj
    · omega
theorem both_new (w : World) : Both w ((((w.alloc (.cells #[.slice none 0 0] 28)).alloc (.cells #[.pointer (some ⟨w.heap.size, 0, none⟩), .slice none 0 0] 31)).alloc (.cells #[.slice none 0 0] 28)).alloc (.cells #[.pointer (some ⟨w.heap.size + 2, 0, none⟩), .slice none 0 0] 31)) (w.heap.size + 1) w.heap.size [] (w.heap.size + 3) (w.heap.size + 2) [] := by
  obtain ⟨W, hW⟩ : ∃ W, W = (w.alloc (.cells #[.slice none 0 0] 28)).alloc (.cells #[.pointer (some ⟨w.heap.size, 0, none⟩), .slice none 0 0] 31) := ⟨_, rfl⟩
  have h1 := pr_new w
  have hz : W.heap.size = w.heap.size + 2 := by rw [hW]; simp
  have hb : Below w.heap.size w W := by rw [hW]; exact ((Below.refl _ _).alloc (Nat.le_refl _) _).alloc (by simp) _
  rw [← hW] at h1 ⊢
  have h2 := pr_new W
  rw [hz] at h2
  have hb2 : Below W.heap.size W ((W.alloc (.cells #[.slice none 0 0] 28)).alloc (.cells #[.pointer (some ⟨w.heap.size + 2, 0, none⟩), .slice none 0 0] 31)) := ((Below.refl _ _).alloc (Nat.le_refl _) _).alloc (by simp) _
  exact ⟨⟨_, _, _, _, _, _, h1.below hb2, h2, fun j a b => by omega, fun j a => a.1, fun j a => by omega⟩, hb.trans (hb2.mono (by omega))⟩

set_option maxRecDepth 100000 in
set_option maxHeartbeats 4000000 in
theorem walk (a : Option Addr) (n c : Nat) (A : Nat → Stc) (b : Option Addr) (m cb : Nat) (B : Nat → Stc) (w : World) (ha : CameStc w a n A) (hb : CameStc w b m B) :
    Calls Try.prog 5 #[.slice a n c, .slice b m cb] w fun e w' => e = .returned (.bool true) ∧ Below w.heap.size w w' := by
  have hn := ha.size
  have hrow := ha.row
  have heach := hide_it ha.each
  have hm := hb.size
  have hrob := hb.row
  have heacb := hide_it hb.each
  clear ha hb
  have hS0 := both_new w
  obtain ⟨W0, hW0⟩ : ∃ W0, W0 = (((w.alloc (.cells #[.slice none 0 0] 28)).alloc (.cells #[.pointer (some ⟨w.heap.size, 0, none⟩), .slice none 0 0] 31)).alloc (.cells #[.slice none 0 0] 28)).alloc (.cells #[.pointer (some ⟨w.heap.size + 2, 0, none⟩), .slice none 0 0] 31) := ⟨_, rfl⟩
  rw [← hW0] at hS0
  go_enter Try.func5, Try.ntmps5
  go_wp2_with fail
  try rw [show w.heap.size + 1 + 1 = w.heap.size + 2 from rfl]
  try rw [show w.heap.size + 2 + 1 = w.heap.size + 3 from rfl]
  rw [← hW0]
  clear hW0
  obtain ⟨q1, hq1⟩ : ∃ q, q = w.heap.size + 1 := ⟨_, rfl⟩
  obtain ⟨p2, hp2⟩ : ∃ q, q = w.heap.size + 2 := ⟨_, rfl⟩
  obtain ⟨q2, hq2⟩ : ∃ q, q = w.heap.size + 3 := ⟨_, rfl⟩
  rw [← hq1, ← hp2, ← hq2] at hS0
  try rw [← hq1]
  try rw [← hq2]
  clear hq1 hp2 hq2
  have HS0 := hide_it hS0
  clear hS0
  go_loopw [7] (fun i wr => ∃ (k : Nat) (xs ys : List Lk), (k ≤ n ∨ k ≤ m) ∧ i = .int .i64 (k : Int) ∧ xs.length ≤ k ∧ ys.length ≤ k ∧ Hid (Both w wr q1 w.heap.size xs q2 p2 ys)) (fun i _ => n + m - (intOf i).toNat)
  case atStart => exact ⟨0, [], [], .inl (by omega), rfl, by simp, by simp, HS0⟩
  case round =>
    clear HS0
    obtain ⟨k, xs, ys, hk, rfl, hxl, hyl, HS⟩ := hrel
    have hk3 : k ≤ 3518437208780 := by omega
    have hw1 : IntKind.i64.wrap ((k : Int) + 1) = (k : Int) + 1 := i64_in (by omega) (by omega)
    by_cases hltx : k < n
    · by_cases hlty : k < m
      · skip
        have hkx : (k : Int) < (n : Int) := by omega
        have ekx : decide ((k : Int) < (n : Int)) = true := decide_eq_true hkx
        have hky : (k : Int) < (m : Int) := by omega
        have eky : decide ((k : Int) < (m : Int)) = true := decide_eq_true hky
        obtain ⟨b2, o2, rfl, l2, c0, c1, c2, c3⟩ := hrow.here hltx
        have d0 := (HS.out.bel.cell (p := ⟨b2, o2 + k * 4, none⟩) l2).trans c0
        have d1 := (HS.out.bel.cell (p := ⟨b2, o2 + k * 4 + 1, none⟩) l2).trans c1
        have d2 := (HS.out.bel.cell (p := ⟨b2, o2 + k * 4 + 2, none⟩) l2).trans c2
        have d3 := (HS.out.bel.cell (p := ⟨b2, o2 + k * 4 + 3, none⟩) l2).trans c3
        have hst := HS.out.call (by omega) (A k) (heach.out k hltx).n
        have HL := hide_it (nxt_len xs (A k))
        generalize A k = s at *
        clear c0 c1 c2 c3 HS
        go_wp2_with fail
        refine hst.mono ?_
        rintro e w1 ⟨rfl, hS1⟩
        have HS := hide_it hS1
        obtain ⟨xs2, hxs2⟩ : ∃ z, z = nxt xs s := ⟨_, rfl⟩
        rw [← hxs2] at HS HL
        clear hst hS1 d0 d1 d2 d3 hxs2
        obtain ⟨b2, o2, rfl, l2, c0, c1, c2, c3⟩ := hrob.here hlty
        have d0 := (HS.out.bel.cell (p := ⟨b2, o2 + k * 4, none⟩) l2).trans c0
        have d1 := (HS.out.bel.cell (p := ⟨b2, o2 + k * 4 + 1, none⟩) l2).trans c1
        have d2 := (HS.out.bel.cell (p := ⟨b2, o2 + k * 4 + 2, none⟩) l2).trans c2
        have d3 := (HS.out.bel.cell (p := ⟨b2, o2 + k * 4 + 3, none⟩) l2).trans c3
        have hst := HS.out.swap.call (by omega) (B k) (heacb.out k hlty).n
        have HLy := hide_it (nxt_len ys (B k))
        generalize B k = s2 at *
        clear c0 c1 c2 c3 HS
        go_wp2_with fail
        refine hst.mono ?_
        rintro e w1 ⟨rfl, hS1⟩
        have HS := hide_it hS1.swap
        obtain ⟨ys2, hys2⟩ : ∃ z, z = nxt ys s2 := ⟨_, rfl⟩
        rw [← hys2] at HS HLy
        clear hst hS1 d0 d1 d2 d3 hys2
        go_wp2
        go_roundw
        case rel => exact ⟨k + 1, xs2, ys2, by omega, by go_num, by have := HL.out; omega, by have := HLy.out; omega, HS⟩
        case measure => simp [intOf]; omega
      · skip
        have hkx : (k : Int) < (n : Int) := by omega
        have ekx : decide ((k : Int) < (n : Int)) = true := decide_eq_true hkx
        have eky : decide ((k : Int) < (m : Int)) = false := decide_eq_false (by omega)
        obtain ⟨b2, o2, rfl, l2, c0, c1, c2, c3⟩ := hrow.here hltx
        have d0 := (HS.out.bel.cell (p := ⟨b2, o2 + k * 4, none⟩) l2).trans c0
        have d1 := (HS.out.bel.cell (p := ⟨b2, o2 + k * 4 + 1, none⟩) l2).trans c1
        have d2 := (HS.out.bel.cell (p := ⟨b2, o2 + k * 4 + 2, none⟩) l2).trans c2
        have d3 := (HS.out.bel.cell (p := ⟨b2, o2 + k * 4 + 3, none⟩) l2).trans c3
        have hst := HS.out.call (by omega) (A k) (heach.out k hltx).n
        have HL := hide_it (nxt_len xs (A k))
        generalize A k = s at *
        clear c0 c1 c2 c3 HS
        go_wp2_with fail
        refine hst.mono ?_
        rintro e w1 ⟨rfl, hS1⟩
        have HS := hide_it hS1
        obtain ⟨xs2, hxs2⟩ : ∃ z, z = nxt xs s := ⟨_, rfl⟩
        rw [← hxs2] at HS HL
        clear hst hS1 d0 d1 d2 d3 hxs2
        go_wp2
        go_roundw
        case rel => exact ⟨k + 1, xs2, ys, by omega, by go_num, by have := HL.out; omega, by omega, HS⟩
        case measure => simp [intOf]; omega
    · by_cases hlty : k < m
      · skip
        have ekx : decide ((k : Int) < (n : Int)) = false := decide_eq_false (by omega)
        have hky : (k : Int) < (m : Int) := by omega
        have eky : decide ((k : Int) < (m : Int)) = true := decide_eq_true hky
        obtain ⟨b2, o2, rfl, l2, c0, c1, c2, c3⟩ := hrob.here hlty
        have d0 := (HS.out.bel.cell (p := ⟨b2, o2 + k * 4, none⟩) l2).trans c0
        have d1 := (HS.out.bel.cell (p := ⟨b2, o2 + k * 4 + 1, none⟩) l2).trans c1
        have d2 := (HS.out.bel.cell (p := ⟨b2, o2 + k * 4 + 2, none⟩) l2).trans c2
        have d3 := (HS.out.bel.cell (p := ⟨b2, o2 + k * 4 + 3, none⟩) l2).trans c3
        have hst := HS.out.swap.call (by omega) (B k) (heacb.out k hlty).n
        have HLy := hide_it (nxt_len ys (B k))
        generalize B k = s2 at *
        clear c0 c1 c2 c3 HS
        go_wp2_with fail
        refine hst.mono ?_
        rintro e w1 ⟨rfl, hS1⟩
        have HS := hide_it hS1.swap
        obtain ⟨ys2, hys2⟩ : ∃ z, z = nxt ys s2 := ⟨_, rfl⟩
        rw [← hys2] at HS HLy
        clear hst hS1 d0 d1 d2 d3 hys2
        go_wp2
        go_roundw
        case rel => exact ⟨k + 1, xs, ys2, by omega, by go_num, by omega, by have := HLy.out; omega, HS⟩
        case measure => simp [intOf]; omega
      · skip
        have ekx : decide ((k : Int) < (n : Int)) = false := decide_eq_false (by omega)
        have eky : decide ((k : Int) < (m : Int)) = false := decide_eq_false (by omega)
        have hxx : xs.length ≤ 3600000000000 := by omega
        have hyy : ys.length ≤ 3600000000000 := by omega
        have h1 := HS.out.call hxx ⟨6, -1, ⟨#[]⟩, false⟩ (by simp)
        rw [show nxt xs ⟨6, -1, ⟨#[]⟩, false⟩ = xs by simp [nxt]] at h1
        clear hrow hrob HS
        go_wp2_with fail
        refine h1.mono ?_
        rintro e w1 ⟨rfl, hS1⟩
        have h2 := hS1.swap.call hyy ⟨6, -1, ⟨#[]⟩, false⟩ (by simp)
        rw [show nxt ys ⟨6, -1, ⟨#[]⟩, false⟩ = ys by simp [nxt]] at h2
        clear h1 hS1
        go_wp2_with fail
        refine h2.mono ?_
        rintro e w2 ⟨rfl, hS2⟩
        have hB := hS2.bel
        have haw := awake_any w2
        clear h2 hS2
        go_wp2_with fail
        refine haw.mono ?_
        rintro e w4 ⟨rfl, hb4⟩
        have HB := hide_it (hB.trans (hb4.mono hB.size))
        clear haw hb4 hB
        go_wp2
        go_ret
        exact ⟨rfl, HB.out⟩
end Go.Proofs.Ytncmnhomloanaaa.chainBeside
