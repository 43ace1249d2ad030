/- That LabelPlaces answers true of every list of labels and every label. -/
import Derived.Test.YtlogemklballiaaPlaces
import Derived.Test.YtlogemklballiaaOpen
namespace Go.Proofs.Ytlogemklballiaa.labelPlaces
open Go.RowKit

set_option maxRecDepth 100000 in
set_option maxHeartbeats 4000000 in
theorem walkY (a : Option Addr) (cap : Nat) (zs : List Nat) (x : Nat) (hx : W64 x) (w : World) (h : Came1 w a cap zs) (n : Nat) (hn : idx zs x = (n : Int)) : Calls Try.prog 7 #[.slice a zs.length cap, .int .u64 (x : Int)] w fun e w' => e = .returned (.bool true) ∧ Below w.heap.size w w' := by
  have hmx : zs.length ≤ maxLen := Nat.le_trans h.fits h.capm
  have hp := plain_any a cap zs w h.row (by have := h.size; omega)
  go_enter Try.func7, Try.ntmps7
  go_wp2_with fail
  refine hp.mono ?_
  rintro e w1 ⟨⟨g, rfl, hr1⟩, hb1⟩
  clear hp
  have hpl := place_yes a cap zs x w1 (h.row.below hb1) hmx n hn
  go_wp2_with fail
  refine hpl.mono ?_
  rintro e w2 ⟨rfl, hq⟩
  have hq2 := hq.symm
  subst hq2
  clear hpl hq
  have hrp := rplace_any (some ⟨g, 0, none⟩) zs.length zs x w1 hr1 hmx
  rw [hn] at hrp
  have hd1 : ((n : Int) != (n : Int)) = false := by simp
  go_wp2_with fail
  refine hrp.mono ?_
  rintro e w2 ⟨rfl, hq⟩
  have hq2 := hq.symm
  subst hq2
  clear hrp hq
  have hbl := hb1
  have hd := down_any x a cap zs w1 hx (h.row.below hb1) h.all (by have := h.size; omega)
  go_wp2_with fail
  refine hd.mono ?_
  rintro e w2 ⟨⟨g2, c2, rfl, hi2⟩, hb2⟩
  clear hd
  have hb3 := hb1.trans (hb2.mono hb1.size)
  have hr2 := hr1.below hb2
  have hrd := rdown_any x (some ⟨g, 0, none⟩) zs.length zs w2 hx hr2 h.all (by have := h.size; omega)
  clear hr1 hb1 hb2
  go_wp2_with fail
  refine hrd.mono ?_
  rintro e w3 ⟨⟨g3, c3, rfl, hi3⟩, hb4⟩
  clear hrd
  have hb5 := hb3.trans (hb4.mono hb3.size)
  have hr3 := hr2.below hb4
  have hsi := sameInts_any g2 g3 c2 c3 _ _ w3 (hi2.below hb4) hi3 (by have := plOf_len (fun y => lq y x) zs zs.length; omega)
  rw [decide_eq_true rfl] at hsi
  clear hr2 hb3 hb4 hi2 hi3
  generalize (plOf (fun y => lq y x) zs zs.length).length = ND at *
  go_wp2_with fail
  refine hsi.mono ?_
  rintro e w4 ⟨rfl, hb6⟩
  clear hsi
  have hb7 := hb5.trans (hb6.mono hb5.size)
  have hr4 := hr3.below hb6
  clear hb5 hb6 hr3
  have hd := up_any x a cap zs w4 hx (h.row.below hb7) h.all (by have := h.size; omega)
  go_wp2_with fail
  refine hd.mono ?_
  rintro e w5 ⟨⟨g4, c4, rfl, hi2⟩, hb2⟩
  clear hd
  have hb3 := hb7.trans (hb2.mono hb7.size)
  have hr5 := hr4.below hb2
  have hrd := rup_any x (some ⟨g, 0, none⟩) zs.length zs w5 hx hr5 h.all (by have := h.size; omega)
  clear hr4 hb7 hb2
  go_wp2_with fail
  refine hrd.mono ?_
  rintro e w6 ⟨⟨g5, c5, rfl, hi3⟩, hb4⟩
  clear hrd
  have hb5 := hb3.trans (hb4.mono hb3.size)
  have hsi := sameInts_any g4 g5 c4 c5 _ _ w6 (hi2.below hb4) hi3 (by have := plOf_len (fun y => lq x y) zs zs.length; omega)
  rw [decide_eq_true rfl] at hsi
  clear hr5 hb3 hb4 hi2 hi3
  generalize (plOf (fun y => lq x y) zs zs.length).length = NU at *
  go_wp2_with fail
  refine hsi.mono ?_
  rintro e w7 ⟨rfl, hb6⟩
  clear hsi
  have hb7 := hb5.trans (hb6.mono hb5.size)
  clear hb5 hb6
  go_wp2_with (go_at_call 9; refine (awake_any _).mono ?_; rintro e w8 ⟨rfl, hb8⟩)
  go_ret
  exact ⟨rfl, hb7.trans (hb8.mono hb7.size)⟩

set_option maxRecDepth 100000 in
set_option maxHeartbeats 4000000 in
theorem walkN (a : Option Addr) (cap : Nat) (zs : List Nat) (x : Nat) (hx : W64 x) (w : World) (h : Came1 w a cap zs) (hm : x ∉ zs) : Calls Try.prog 7 #[.slice a zs.length cap, .int .u64 (x : Int)] w fun e w' => e = .returned (.bool true) ∧ Below w.heap.size w w' := by
  have hmx : zs.length ≤ maxLen := Nat.le_trans h.fits h.capm
  have hp := plain_any a cap zs w h.row (by have := h.size; omega)
  go_enter Try.func7, Try.ntmps7
  go_wp2_with fail
  refine hp.mono ?_
  rintro e w1 ⟨⟨g, rfl, hr1⟩, hb1⟩
  clear hp
  have hpl := place_no a cap zs x w1 (h.row.below hb1) hmx hm
  go_wp2_with fail
  refine hpl.mono ?_
  rintro e w2 ⟨rfl, hq⟩
  have hq2 := hq.symm
  subst hq2
  clear hpl hq
  have hrp := rplace_any (some ⟨g, 0, none⟩) zs.length zs x w1 hr1 hmx
  rw [idx_not hm] at hrp
  go_wp2_with fail
  refine hrp.mono ?_
  rintro e w2 ⟨rfl, hq⟩
  have hq2 := hq.symm
  subst hq2
  clear hrp hq
  have hbl := hb1
  have hd := down_any x a cap zs w1 hx (h.row.below hb1) h.all (by have := h.size; omega)
  go_wp2_with fail
  refine hd.mono ?_
  rintro e w2 ⟨⟨g2, c2, rfl, hi2⟩, hb2⟩
  clear hd
  have hb3 := hb1.trans (hb2.mono hb1.size)
  have hr2 := hr1.below hb2
  have hrd := rdown_any x (some ⟨g, 0, none⟩) zs.length zs w2 hx hr2 h.all (by have := h.size; omega)
  clear hr1 hb1 hb2
  go_wp2_with fail
  refine hrd.mono ?_
  rintro e w3 ⟨⟨g3, c3, rfl, hi3⟩, hb4⟩
  clear hrd
  have hb5 := hb3.trans (hb4.mono hb3.size)
  have hr3 := hr2.below hb4
  have hsi := sameInts_any g2 g3 c2 c3 _ _ w3 (hi2.below hb4) hi3 (by have := plOf_len (fun y => lq y x) zs zs.length; omega)
  rw [decide_eq_true rfl] at hsi
  clear hr2 hb3 hb4 hi2 hi3
  generalize (plOf (fun y => lq y x) zs zs.length).length = ND at *
  go_wp2_with fail
  refine hsi.mono ?_
  rintro e w4 ⟨rfl, hb6⟩
  clear hsi
  have hb7 := hb5.trans (hb6.mono hb5.size)
  have hr4 := hr3.below hb6
  clear hb5 hb6 hr3
  have hd := up_any x a cap zs w4 hx (h.row.below hb7) h.all (by have := h.size; omega)
  go_wp2_with fail
  refine hd.mono ?_
  rintro e w5 ⟨⟨g4, c4, rfl, hi2⟩, hb2⟩
  clear hd
  have hb3 := hb7.trans (hb2.mono hb7.size)
  have hr5 := hr4.below hb2
  have hrd := rup_any x (some ⟨g, 0, none⟩) zs.length zs w5 hx hr5 h.all (by have := h.size; omega)
  clear hr4 hb7 hb2
  go_wp2_with fail
  refine hrd.mono ?_
  rintro e w6 ⟨⟨g5, c5, rfl, hi3⟩, hb4⟩
  clear hrd
  have hb5 := hb3.trans (hb4.mono hb3.size)
  have hsi := sameInts_any g4 g5 c4 c5 _ _ w6 (hi2.below hb4) hi3 (by have := plOf_len (fun y => lq x y) zs zs.length; omega)
  rw [decide_eq_true rfl] at hsi
  clear hr5 hb3 hb4 hi2 hi3
  generalize (plOf (fun y => lq x y) zs zs.length).length = NU at *
  go_wp2_with fail
  refine hsi.mono ?_
  rintro e w7 ⟨rfl, hb6⟩
  clear hsi
  have hb7 := hb5.trans (hb6.mono hb5.size)
  clear hb5 hb6
  go_wp2_with (go_at_call 9; refine (awake_any _).mono ?_; rintro e w8 ⟨rfl, hb8⟩)
  go_ret
  exact ⟨rfl, hb7.trans (hb8.mono hb7.size)⟩

theorem walk (a : Option Addr) (cap : Nat) (zs : List Nat) (x : Nat) (hx : W64 x) (w : World) (h : Came1 w a cap zs) : Calls Try.prog 7 #[.slice a zs.length cap, .int .u64 (x : Int)] w fun e w' => e = .returned (.bool true) ∧ Below w.heap.size w w' := by
  by_cases hm : x ∈ zs
  · obtain ⟨n, hn⟩ := idx_if hm
    exact walkY a cap zs x hx w h n hn
  · exact walkN a cap zs x hx w h hm

end Go.Proofs.Ytlogemklballiaa.labelPlaces
