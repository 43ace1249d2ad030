/- Sorting a row of labels, or of places, of the call's own, twelve of them or fewer. -/
import Derived.Test.YthclmkmajlinhabSort1
namespace Go.Proofs.Ythclmkmajlinhab
open Go.RowKit

set_option maxRecDepth 100000 in
set_option maxHeartbeats 2000000 in
theorem len64_small (n : Nat) (w : World) (hn : n ≤ 12) : Calls Try.prog 56 #[.int .u64 (n : Int)] w fun e w' => (∃ m : Int, e = .returned (.int .i64 m)) ∧ w' = w := by
  have h : n = 0 ∨ n = 1 ∨ n = 2 ∨ n = 3 ∨ n = 4 ∨ n = 5 ∨ n = 6 ∨ n = 7 ∨ n = 8 ∨ n = 9 ∨ n = 10 ∨ n = 11 ∨ n = 12 := by omega
  rcases h with rfl | rfl | rfl | rfl | rfl | rfl | rfl | rfl | rfl | rfl | rfl | rfl | rfl
  all_goals
    go_enter Try.func56, Try.ntmps56
    go_wp2
    go_ret
    exact ⟨⟨_, rfl⟩, rfl⟩

set_option maxHeartbeats 400000 in
theorem len_small (n : Nat) (w : World) (hn : n ≤ 12) : Calls Try.prog 39 #[.int .u64 (n : Int)] w fun e w' => (∃ m : Int, e = .returned (.int .i64 m)) ∧ w' = w := by
  go_enter Try.func39, Try.ntmps39
  go_wp2_with (go_at_call 56; refine (len64_small n _ hn).mono ?_; rintro e w1 ⟨⟨m, rfl⟩, rfl⟩)
  go_ret
  exact ⟨⟨_, rfl⟩, rfl⟩

set_option maxHeartbeats 400000 in
theorem less_lab (x y : Nat) (w : World) : Calls Try.prog 65 #[.int .u64 (x : Int), .int .u64 (y : Int)] w fun e w' => e = .returned (.bool (decide (x < y))) ∧ w' = w := by
  go_enter Try.func65, Try.ntmps65
  go_wp2
  go_ret
  exact ⟨rfl, rfl⟩


set_option maxHeartbeats 1000000 in
theorem insertion_lab (g n cap a b : Nat) (zs : List Nat) (rest : List Value) (w : World) (hB : Blk .u64 36 w g zs rest) (hn : zs.length = n) (hab : a ≤ b) (hb : b ≤ n) (hl : n ≤ 4611686018427387904) :
    Calls Try.prog 59 #[.slice (some ⟨g, 0, none⟩) n cap, .int .i64 (a : Int), .int .i64 (b : Int)] w fun e w' => e = .returned (.tuple #[]) ∧
      ∃ zs', within a b zs zs' ∧ sortedR zs' a b ∧ Blk .u64 36 w' g zs' rest ∧ w.grownBy w' (some g) := by
  go_enter Try.func59, Try.ntmps59
  go_wp2
  go_loopw [6] (fun i wr => ∃ (k : Nat) (zk : List Nat), i = .int .i64 k ∧ a < k ∧ k ≤ b + 1 ∧ (Hid (zk.length = n) ∧ within a b zs zk ∧ sortedR zk a k) ∧ Blk .u64 36 wr g zk rest ∧ w.grownBy wr (some g)) (fun i _ => b + 1 - (intOf i).toNat)
  case atStart => exact ⟨a + 1, zs, by go_num, by omega, by omega, ⟨hn, within.refl _ _ _, fun p q h1 h2 h3 => by omega⟩, hB, World.grownBy.refl _ _⟩
  case round =>
    obtain ⟨k, zk, rfl, hak, hkb, ⟨hlen, hwi, hso⟩, hblk, hgr⟩ := hrel
    by_cases hlt : k < b
    · go_wp2
      go_loopw [7] (fun i wr2 => ∃ (j : Nat) (zj : List Nat), i = .int .i64 j ∧ a ≤ j ∧ j ≤ k ∧ (Hid (zj.length = n) ∧ within a b zs zj ∧ nearly zj a k j) ∧ Blk .u64 36 wr2 g zj rest ∧ w.grownBy wr2 (some g)) (fun i _ => (intOf i).toNat)
      case atStart => exact ⟨k, zk, rfl, by omega, by omega, ⟨hlen, hwi, nearly_start hso⟩, hblk, hgr⟩
      case round =>
        clear hblk hgr hlen hwi hso
        obtain ⟨j, zj, rfl, haj, hjk, ⟨hlen, hwi, hne⟩, hblk, hgr⟩ := hrel
        have HW : Hid (within a b zs zj ∧ nearly zj a k j) := ⟨hwi, hne⟩
        clear hwi hne
        by_cases hja : a < j
        · have hl1 := hlen.out
          have hc1 := hblk.cell (i := j) (by omega)
          have hc2 := hblk.cell (i := j - 1) (by omega)
          have hf1 := hblk.frozen j
          have hf2 := hblk.frozen (j - 1)
          clear hl1
          obtain ⟨x, hx⟩ : ∃ x, x = at0 zj j := ⟨_, rfl⟩
          obtain ⟨y, hy⟩ : ∃ y, y = at0 zj (j - 1) := ⟨_, rfl⟩
          have HX : Hid (x = at0 zj j) := hx
          have HY : Hid (y = at0 zj (j - 1)) := hy
          rw [← hx] at hc1
          rw [← hy] at hc2
          clear hx hy
          have hi1 : (j : Int) < (n : Int) := by omega
          have hi2 : (j : Int) - 1 < (n : Int) := by omega
          have hi3 : (0 : Int) ≤ (j : Int) - 1 := by omega
          have hd : decide ((a : Int) < (j : Int)) = true := by simpa using hja
          by_cases hxy : x < y
          · have hdx : decide (x < y) = true := by simpa using hxy
            go_wp2
            go_quiet ((go_at_call 65; exact Calls.quiet_of_same (less_lab _ _ _)))
            go_wp2
            go_region
            all_goals go_wp2
            go_roundw
            case rel =>
              have h1 := hlen.out
              obtain ⟨hwi, hne⟩ := HW.out
              have hb2 := (((hblk.drewN (nq + 1)).set (i := j) (by omega) y).set (i := j - 1) (by simp; omega) x)
              rw [HY.out, HX.out] at hb2
              have hb3 : Blk .u64 36 (((wr.drewN (nq + 1)).setCell ⟨g, j, none⟩ (.int .u64 ((at0 zj (j - 1) : Nat) : Int))).setCell ⟨g, j - 1, none⟩ (.int .u64 ((at0 zj j : Nat) : Int))) g (swapL zj j (j - 1)) rest := hb2
              rw [HY.out, HX.out]
              exact ⟨j - 1, swapL zj j (j - 1), by congr 1; omega, by omega, by omega,
                ⟨(swapL_length _ _).trans h1, hwi.trans (within.swap (by omega) (by omega) (by omega) (by omega) (by omega)), nearly_step hne hja hjk (by omega) (by have := HX.out; have := HY.out; omega)⟩,
                hb3, grown_set (grown_set (grown_drewN hgr _) _ _) _ _⟩
            case measure => simp [intOf]; omega
          · have hdx : decide (x < y) = false := by simpa using hxy
            go_wp2
            go_quiet ((go_at_call 65; exact Calls.quiet_of_same (less_lab _ _ _)))
            go_wp2
            go_roundw
            case rel =>
              obtain ⟨hwi, hne⟩ := HW.out
              exact ⟨k + 1, zj, by go_num, by omega, by omega, ⟨hlen, hwi, nearly_stop hne (.inr (by have := HX.out; have := HY.out; omega))⟩, hblk.drewN _, grown_drewN hgr _⟩
            case measure => simp [intOf]; omega
        · have hd : decide ((a : Int) < (j : Int)) = false := by simp; omega
          go_wp2
          go_quiet ((go_at_call 65; exact Calls.quiet_of_same (less_lab _ _ _)))
          go_wp2
          go_roundw
          case rel =>
            obtain ⟨hwi, hne⟩ := HW.out
            exact ⟨k + 1, zj, by go_num, by omega, by omega, ⟨hlen, hwi, nearly_stop hne (.inl (by omega))⟩, hblk.drewN _, grown_drewN hgr _⟩
          case measure => simp [intOf]; omega
    · go_wp2
      go_end0
      exact ⟨rfl, zk, hwi, fun p q h1 h2 h3 => hso p q h1 h2 (by omega), hblk, hgr⟩


set_option maxHeartbeats 1000000 in
theorem pdq_small_lab (g n cap a b : Nat) (m : Int) (zs : List Nat) (rest : List Value) (w : World) (hB : Blk .u64 36 w g zs rest) (hn : zs.length = n) (hab : a ≤ b) (hb : b ≤ n) (h12 : b - a ≤ 12) (hl : n ≤ 4611686018427387904) :
    Calls Try.prog 44 #[.slice (some ⟨g, 0, none⟩) n cap, .int .i64 (a : Int), .int .i64 (b : Int), .int .i64 m] w fun e w' => e = .returned (.tuple #[]) ∧
      ∃ zs', within a b zs zs' ∧ sortedR zs' a b ∧ Blk .u64 36 w' g zs' rest ∧ w.grownBy w' (some g) := by
  have h1 : (b : Int) - (a : Int) ≤ 12 := by omega
  go_enter Try.func44, Try.ntmps44
  go_wp2
  refine wp_loop_rounds 1 ?_
  rw [rounds_succ]
  go_wp2_with (go_at_call 59; refine (insertion_lab g n cap a b zs rest _ hB hn hab hb hl).mono ?_; rintro e w' ⟨rfl, hw⟩)
  exact bodyPost_ret (results_none rfl _ _ _) rfl ⟨rfl, hw⟩

theorem sort_small_lab (g n cap : Nat) (zs : List Nat) (rest : List Value) (w : World) (hB : Blk .u64 36 w g zs rest) (hn : zs.length = n) (h12 : n ≤ 12) :
    Calls Try.prog 34 #[.slice (some ⟨g, 0, none⟩) n cap] w fun e w' => e = .returned (.tuple #[]) ∧
      ∃ zs', zs'.Perm zs ∧ sortedR zs' 0 n ∧ Blk .u64 36 w' g zs' rest ∧ w.grownBy w' (some g) := by
  have e0 : (Value.int .i64 0) = .int .i64 ((0 : Nat) : Int) := rfl
  go_enter Try.func34, Try.ntmps34
  go_wp2_with fail
  refine (len_small n _ h12).mono ?_
  rintro e w1 ⟨⟨m, rfl⟩, rfl⟩
  go_wp2_with fail
  refine (pdq_small_lab g n cap 0 n m zs rest _ hB hn (by omega) (by omega) (by omega) (by omega)).mono ?_
  rintro e w2 ⟨rfl, zs', hw, hs, hb, hg⟩
  go_wp2
  go_end0
  exact ⟨rfl, zs', hw.1, hs, hb, hg⟩

set_option maxHeartbeats 400000 in
theorem less_int (x y : Nat) (w : World) : Calls Try.prog 52 #[.int .i64 (x : Int), .int .i64 (y : Int)] w fun e w' => e = .returned (.bool (decide (x < y))) ∧ w' = w := by
  go_enter Try.func52, Try.ntmps52
  go_wp2
  go_ret
  exact ⟨rfl, rfl⟩


set_option maxHeartbeats 1000000 in
theorem insertion_int (g n cap a b : Nat) (zs : List Nat) (rest : List Value) (w : World) (hB : Blk .i64 3 w g zs rest) (hn : zs.length = n) (hab : a ≤ b) (hb : b ≤ n) (hl : n ≤ 4611686018427387904) :
    Calls Try.prog 46 #[.slice (some ⟨g, 0, none⟩) n cap, .int .i64 (a : Int), .int .i64 (b : Int)] w fun e w' => e = .returned (.tuple #[]) ∧
      ∃ zs', within a b zs zs' ∧ sortedR zs' a b ∧ Blk .i64 3 w' g zs' rest ∧ w.grownBy w' (some g) := by
  go_enter Try.func46, Try.ntmps46
  go_wp2
  go_loopw [6] (fun i wr => ∃ (k : Nat) (zk : List Nat), i = .int .i64 k ∧ a < k ∧ k ≤ b + 1 ∧ (Hid (zk.length = n) ∧ within a b zs zk ∧ sortedR zk a k) ∧ Blk .i64 3 wr g zk rest ∧ w.grownBy wr (some g)) (fun i _ => b + 1 - (intOf i).toNat)
  case atStart => exact ⟨a + 1, zs, by go_num, by omega, by omega, ⟨hn, within.refl _ _ _, fun p q h1 h2 h3 => by omega⟩, hB, World.grownBy.refl _ _⟩
  case round =>
    obtain ⟨k, zk, rfl, hak, hkb, ⟨hlen, hwi, hso⟩, hblk, hgr⟩ := hrel
    by_cases hlt : k < b
    · go_wp2
      go_loopw [7] (fun i wr2 => ∃ (j : Nat) (zj : List Nat), i = .int .i64 j ∧ a ≤ j ∧ j ≤ k ∧ (Hid (zj.length = n) ∧ within a b zs zj ∧ nearly zj a k j) ∧ Blk .i64 3 wr2 g zj rest ∧ w.grownBy wr2 (some g)) (fun i _ => (intOf i).toNat)
      case atStart => exact ⟨k, zk, rfl, by omega, by omega, ⟨hlen, hwi, nearly_start hso⟩, hblk, hgr⟩
      case round =>
        clear hblk hgr hlen hwi hso
        obtain ⟨j, zj, rfl, haj, hjk, ⟨hlen, hwi, hne⟩, hblk, hgr⟩ := hrel
        have HW : Hid (within a b zs zj ∧ nearly zj a k j) := ⟨hwi, hne⟩
        clear hwi hne
        by_cases hja : a < j
        · have hl1 := hlen.out
          have hc1 := hblk.cell (i := j) (by omega)
          have hc2 := hblk.cell (i := j - 1) (by omega)
          have hf1 := hblk.frozen j
          have hf2 := hblk.frozen (j - 1)
          clear hl1
          obtain ⟨x, hx⟩ : ∃ x, x = at0 zj j := ⟨_, rfl⟩
          obtain ⟨y, hy⟩ : ∃ y, y = at0 zj (j - 1) := ⟨_, rfl⟩
          have HX : Hid (x = at0 zj j) := hx
          have HY : Hid (y = at0 zj (j - 1)) := hy
          rw [← hx] at hc1
          rw [← hy] at hc2
          clear hx hy
          have hi1 : (j : Int) < (n : Int) := by omega
          have hi2 : (j : Int) - 1 < (n : Int) := by omega
          have hi3 : (0 : Int) ≤ (j : Int) - 1 := by omega
          have hd : decide ((a : Int) < (j : Int)) = true := by simpa using hja
          by_cases hxy : x < y
          · have hdx : decide (x < y) = true := by simpa using hxy
            go_wp2
            go_quiet ((go_at_call 52; exact Calls.quiet_of_same (less_int _ _ _)))
            go_wp2
            go_region
            all_goals go_wp2
            go_roundw
            case rel =>
              have h1 := hlen.out
              obtain ⟨hwi, hne⟩ := HW.out
              have hb2 := (((hblk.drewN (nq + 1)).set (i := j) (by omega) y).set (i := j - 1) (by simp; omega) x)
              rw [HY.out, HX.out] at hb2
              have hb3 : Blk .i64 3 (((wr.drewN (nq + 1)).setCell ⟨g, j, none⟩ (.int .i64 ((at0 zj (j - 1) : Nat) : Int))).setCell ⟨g, j - 1, none⟩ (.int .i64 ((at0 zj j : Nat) : Int))) g (swapL zj j (j - 1)) rest := hb2
              rw [HY.out, HX.out]
              exact ⟨j - 1, swapL zj j (j - 1), by congr 1; omega, by omega, by omega,
                ⟨(swapL_length _ _).trans h1, hwi.trans (within.swap (by omega) (by omega) (by omega) (by omega) (by omega)), nearly_step hne hja hjk (by omega) (by have := HX.out; have := HY.out; omega)⟩,
                hb3, grown_set (grown_set (grown_drewN hgr _) _ _) _ _⟩
            case measure => simp [intOf]; omega
          · have hdx : decide (x < y) = false := by simpa using hxy
            go_wp2
            go_quiet ((go_at_call 52; exact Calls.quiet_of_same (less_int _ _ _)))
            go_wp2
            go_roundw
            case rel =>
              obtain ⟨hwi, hne⟩ := HW.out
              exact ⟨k + 1, zj, by go_num, by omega, by omega, ⟨hlen, hwi, nearly_stop hne (.inr (by have := HX.out; have := HY.out; omega))⟩, hblk.drewN _, grown_drewN hgr _⟩
            case measure => simp [intOf]; omega
        · have hd : decide ((a : Int) < (j : Int)) = false := by simp; omega
          go_wp2
          go_quiet ((go_at_call 52; exact Calls.quiet_of_same (less_int _ _ _)))
          go_wp2
          go_roundw
          case rel =>
            obtain ⟨hwi, hne⟩ := HW.out
            exact ⟨k + 1, zj, by go_num, by omega, by omega, ⟨hlen, hwi, nearly_stop hne (.inl (by omega))⟩, hblk.drewN _, grown_drewN hgr _⟩
          case measure => simp [intOf]; omega
    · go_wp2
      go_end0
      exact ⟨rfl, zk, hwi, fun p q h1 h2 h3 => hso p q h1 h2 (by omega), hblk, hgr⟩


set_option maxHeartbeats 1000000 in
theorem pdq_small_int (g n cap a b : Nat) (m : Int) (zs : List Nat) (rest : List Value) (w : World) (hB : Blk .i64 3 w g zs rest) (hn : zs.length = n) (hab : a ≤ b) (hb : b ≤ n) (h12 : b - a ≤ 12) (hl : n ≤ 4611686018427387904) :
    Calls Try.prog 38 #[.slice (some ⟨g, 0, none⟩) n cap, .int .i64 (a : Int), .int .i64 (b : Int), .int .i64 m] w fun e w' => e = .returned (.tuple #[]) ∧
      ∃ zs', within a b zs zs' ∧ sortedR zs' a b ∧ Blk .i64 3 w' g zs' rest ∧ w.grownBy w' (some g) := by
  have h1 : (b : Int) - (a : Int) ≤ 12 := by omega
  go_enter Try.func38, Try.ntmps38
  go_wp2
  refine wp_loop_rounds 1 ?_
  rw [rounds_succ]
  go_wp2_with (go_at_call 46; refine (insertion_int g n cap a b zs rest _ hB hn hab hb hl).mono ?_; rintro e w' ⟨rfl, hw⟩)
  exact bodyPost_ret (results_none rfl _ _ _) rfl ⟨rfl, hw⟩

theorem sort_small_int (g n cap : Nat) (zs : List Nat) (rest : List Value) (w : World) (hB : Blk .i64 3 w g zs rest) (hn : zs.length = n) (h12 : n ≤ 12) :
    Calls Try.prog 23 #[.slice (some ⟨g, 0, none⟩) n cap] w fun e w' => e = .returned (.tuple #[]) ∧
      ∃ zs', zs'.Perm zs ∧ sortedR zs' 0 n ∧ Blk .i64 3 w' g zs' rest ∧ w.grownBy w' (some g) := by
  have e0 : (Value.int .i64 0) = .int .i64 ((0 : Nat) : Int) := rfl
  go_enter Try.func23, Try.ntmps23
  go_wp2_with fail
  refine (len_small n _ h12).mono ?_
  rintro e w1 ⟨⟨m, rfl⟩, rfl⟩
  go_wp2_with fail
  refine (pdq_small_int g n cap 0 n m zs rest _ hB hn (by omega) (by omega) (by omega) (by omega)).mono ?_
  rintro e w2 ⟨rfl, zs', hw, hs, hb, hg⟩
  go_wp2
  go_end0
  exact ⟨rfl, zs', hw.1, hs, hb, hg⟩

end Go.Proofs.Ythclmkmajlinhab
