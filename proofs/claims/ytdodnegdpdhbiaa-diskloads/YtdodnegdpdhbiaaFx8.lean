/- The row of calls whose answers the document fixes. -/
import Derived.Test.YtdodnegdpdhbiaaNd8
import Derived.Test.YtdodnegdpdhbiaaEq8
namespace Go.Proofs.Ytdodnegdpdhbiaa
open Go.RowKit

theorem rowF_one (w : World) (d k : Int) (t : Nat) (ty : TypeId) : RowF (w.alloc (.cells #[.int .i64 d, .int .i64 k, .int .u8 (t : Int)] ty)) (some ⟨w.heap.size, 0, none⟩) 1 (fun _ => ⟨d, k, t⟩) := by
  refine .inr ⟨_, _, rfl, by simp, fun i hi => ?_⟩
  obtain rfl : i = 0 := by omega
  have h := heap_alloc_new w (.cells #[.int .i64 d, .int .i64 k, .int .u8 (t : Int)] ty)
  exact ⟨cell_of_row _ _ _ _ _ _ h, cell_of_row _ _ _ _ _ _ h, cell_of_row _ _ _ _ _ _ h⟩
theorem all8_lit {L : List Nat} (h : L.all (· < 256) = true) : All8 L := fun z hz => by simpa using List.all_eq_true.1 h z hz

theorem torn_one : strX ⟨0, [1, 2, 0, 3], 2, 1, 1, 7, 1⟩ = ⟨0, [1, 2, 7], 3, 1, 1, 7, 1⟩ := by simp [strX, crashB, tear, kpt, at0]

set_option maxRecDepth 100000 in
set_option maxHeartbeats 1600000 in
theorem fixed_any (w : World) : Calls Try.prog 20 #[] w fun e w' => e = .returned (.bool true) ∧ Below w.heap.size w w' := by
  have hnew := newD_any 2 w
  go_enter Try.func20, Try.ntmps20
  go_wp2_with fail
  refine hnew.mono ?_
  intro e w1 hN
  cases hN with
  | no h1 _ _ => omega
  | ok n hn _ hM =>
    obtain rfl : n = 2 := by omega
    obtain ⟨p, rfl, hD1⟩ := hM.nd (Below.refl w.heap.size w)
    clear hnew hM hn
    have hb1 : Below w1.heap.size w1 (w1.alloc (.cells #[.int .u8 1, .int .u8 2] 5)) := (Below.refl _ _).alloc (Nat.le_refl _) _
    have ha1 := (hD1.below hb1).append 0 (by omega) 0 (some ⟨w1.heap.size, 0, none⟩) 2 [1, 2] (rowB_lit w1 [1, 2] _) (all8_lit rfl) (fun e => by cases e) (by simp) (by simp) (by simp)
    rw [show opS false (⟨0, [], 0, 0, 0, 0, 0⟩ : Pt) 0 0 [1, 2] = (0, ⟨0, [1, 2], 0, 0, 0, 0, 1⟩) from rfl] at ha1
    clear hD1 hb1
    go_wp2_with fail
    refine ha1.mono ?_
    rintro e w2 ⟨rfl, hD2⟩
    have hs2 := hD2.sync 0 (by omega) 0 [] (by simp [upd])
    rw [upd_at, upd_upd, show opS false (⟨0, [1, 2], 0, 0, 0, 0, 1⟩ : Pt) 1 0 [] = (0, ⟨0, [1, 2], 2, 0, 0, 0, 2⟩) from rfl] at hs2
    clear ha1 hD2
    go_wp2_with fail
    refine hs2.mono ?_
    rintro e w3 ⟨rfl, hD3⟩
    have hd3 := hD3.done 0 (by omega)
    rw [upd_at] at hd3
    clear hs2
    go_wp2_with fail
    refine hd3.mono ?_
    rintro e w4 ⟨rfl, hw⟩
    have hw2 := hw.symm
    subst hw2
    clear hw hd3
    have hb3 : Below w3.heap.size w3 (w3.alloc (.cells #[.int .i64 1, .int .i64 1, .int .u8 7] 70)) := (Below.refl _ _).alloc (Nat.le_refl _) _
    have har := hD3.arm hb3 (some ⟨w3.heap.size, 0, none⟩) 1 1 (fun _ => ⟨1, 1, 7⟩) (rowF_one w3 1 1 7 _) (.inr fun ad e => by cases e; exact .inr (Nat.le_refl _)) (fun _ _ => by show 7 < 256; omega)
    obtain ⟨S, hS⟩ : ∃ S, S = armTo (upd (fun _ => ⟨0, [], 0, 0, 0, 0, 0⟩) 0 ⟨0, [1, 2], 2, 0, 0, 0, 2⟩) 1 (fun _ => ⟨1, 1, 7⟩) 2 := ⟨_, rfl⟩
    have hS0 : S 0 = ⟨0, [1, 2], 2, 1, 1, 7, 0⟩ := by rw [hS]; rfl
    have hS1 : S 1 = ⟨0, [], 0, 0, 0, 0, 0⟩ := by rw [hS]; rfl
    rw [← hS] at har
    clear hS hD3 hb3
    go_wp2_with fail
    refine har.mono ?_
    rintro e w4 ⟨rfl, hD4⟩
    have hb4 : Below w4.heap.size w4 (w4.alloc (.cells #[.int .u8 0, .int .u8 3] 5)) := (Below.refl _ _).alloc (Nat.le_refl _) _
    have ha4 := (hD4.below hb4).append 0 (by omega) 0 (some ⟨w4.heap.size, 0, none⟩) 2 [0, 3] (rowB_lit w4 [0, 3] _) (all8_lit rfl) (fun e => by cases e) (by rw [hS0]; simp) (by rw [hS0]; simp) (by rw [hS0]; simp)
    rw [hS0, show opS true (⟨0, [1, 2], 2, 1, 1, 7, 0⟩ : Pt) 0 0 [0, 3] = (0, ⟨0, [1, 2, 0, 3], 2, 1, 1, 7, 1⟩) from rfl] at ha4
    clear hD4 hb4 har
    go_wp2_with fail
    refine ha4.mono ?_
    rintro e w5 ⟨rfl, hD5⟩
    have hs5 := hD5.sync 0 (by omega) 0 [] (by simp [upd])
    rw [upd_at, upd_upd, show opS true (⟨0, [1, 2, 0, 3], 2, 1, 1, 7, 1⟩ : Pt) 1 0 [] = (80, ⟨0, [1, 2, 0, 3], 2, 1, 1, 7, 1⟩) from rfl] at hs5
    clear ha4 hD5
    go_wp2_with fail
    refine hs5.mono ?_
    rintro e w6 ⟨rfl, hD6⟩
    have hb6 : Below w6.heap.size w6 (w6.alloc (.cells #[.int .u8 9] 5)) := (Below.refl _ _).alloc (Nat.le_refl _) _
    have hu1 : upd S 0 ⟨0, [1, 2, 0, 3], 2, 1, 1, 7, 1⟩ 1 = ⟨0, [], 0, 0, 0, 0, 0⟩ := by rw [upd_ne _ _ _ (by omega), hS1]
    have ha6 := (hD6.below hb6).append 1 (by omega) 0 (some ⟨w6.heap.size, 0, none⟩) 1 [9] (rowB_lit w6 [9] _) (all8_lit rfl) (fun e => by cases e) (by rw [hu1]; simp) (by rw [hu1]; simp) (by rw [hu1]; simp)
    rw [hu1, show opS true (⟨0, [], 0, 0, 0, 0, 0⟩ : Pt) 0 0 [9] = (80, ⟨0, [], 0, 0, 0, 0, 0⟩) from rfl] at ha6
    clear hD6 hb6 hs5
    go_wp2_with fail
    refine ha6.mono ?_
    rintro e w7 ⟨rfl, hD7⟩
    have hst := hD7.strike
    obtain ⟨R, hR⟩ : ∃ R, R = strS (upd (upd S 0 ⟨0, [1, 2, 0, 3], 2, 1, 1, 7, 1⟩) 1 ⟨0, [], 0, 0, 0, 0, 0⟩) 2 := ⟨_, rfl⟩
    have hR0 : R 0 = ⟨0, [1, 2, 7], 3, 0, 0, 0, 0⟩ := by
      rw [hR]
      show armX (strX ⟨0, [1, 2, 0, 3], 2, 1, 1, 7, 1⟩) 0 (fun _ => ⟨0, 0, 0⟩) 0 = _
      rw [torn_one]
      rfl
    have hR1 : R 1 = ⟨0, [], 0, 0, 0, 0, 0⟩ := by rw [hR]; rfl
    rw [← hR] at hst
    clear ha6 hD7 hR hu1 hS0 hS1
    go_wp2_with fail
    refine hst.mono ?_
    rintro e w8 ⟨rfl, hD8⟩
    have him := hD8.image
    clear hst
    go_wp2_with fail
    refine him.mono ?_
    rintro e w9 ⟨⟨⟨X, r, rfl, hSp⟩, hb9⟩, hD9⟩
    obtain ⟨x0, x1⟩ := hSp.cells (i := 0) (by omega)
    obtain ⟨y0, y1⟩ := hSp.cells (i := 1) (by omega)
    obtain ⟨ra, rc, e1, hrow, _⟩ := (hSp.own 0 (by omega)).row
    obtain ⟨rb, rd, e2, hrow2, _⟩ := (hSp.own 1 (by omega)).row
    rw [show safeT R 0 = (0, [1, 2, 7]) by unfold safeT; rw [hR0]; rfl] at e1 hrow
    rw [show safeT R 1 = (0, []) by unfold safeT; rw [hR1]; rfl] at e2
    rw [e1] at x1
    rw [e2] at y1
    have hXl := hSp.lt
    have hb10 : Below w9.heap.size w9 (w9.alloc (.cells #[.int .u8 1, .int .u8 2, .int .u8 7] 5)) := (Below.refl _ _).alloc (Nat.le_refl _) _
    have heq := equal_same ra (some ⟨w9.heap.size, 0, none⟩) 3 rc 3 [1, 2, 7] _ (hrow.below hb10) (rowB_lit w9 [1, 2, 7] 5) rfl (by omega)
    have hD10 := hide_it (hD9.below hb10)
    have hb10' := hide_it hb10
    clear him hD9 hD8 hSp hb10 hrow hrow2 e1 e2 x0 y0
    go_wp2_with fail
    refine heq.mono ?_
    rintro e w11 ⟨rfl, hb11⟩
    have hD11 := hD10.out.below hb11
    have y2 := (hb11.cell (p := ⟨X, 3, none⟩) (by simp; omega)).trans ((hb10'.out.cell (p := ⟨X, 3, none⟩) hXl).trans y1)
    have hb12 : Below w11.heap.size w11 (w11.alloc (.cells #[.int .u8 9] 5)) := (Below.refl _ _).alloc (Nat.le_refl _) _
    have ha12 := (hD11.below hb12).append 1 (by omega) 0 (some ⟨w11.heap.size, 0, none⟩) 1 [9] (rowB_lit w11 [9] _) (all8_lit rfl) (fun e => by cases e) (by rw [hR1]; simp) (by rw [hR1]; simp) (by rw [hR1]; simp)
    rw [hR1, show opS false (⟨0, [], 0, 0, 0, 0, 0⟩ : Pt) 0 0 [9] = (0, ⟨0, [9], 0, 0, 0, 0, 1⟩) from rfl] at ha12
    clear heq hD10 hb10' hb11 hD11 hb12 y1 x1
    go_wp2_with fail
    refine ha12.mono ?_
    rintro e w13 ⟨rfl, hD13⟩
    have hfin := hD13.bel
    clear ha12 hD13
    go_wp2_with fail
    go_ret
    exact ⟨rfl, hfin⟩

end Go.Proofs.Ytdodnegdpdhbiaa
