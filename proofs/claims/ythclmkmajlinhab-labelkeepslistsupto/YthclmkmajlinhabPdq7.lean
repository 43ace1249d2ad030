/- The partial insertion sort of the library's sort at labels. -/
import Derived.Test.YthclmkmajlinhabPdq6
namespace Go.Proofs.Ythclmkmajlinhab
open Go.RowKit

/-- A row under sorting: what stands from a up to i is sorted. -/
structure IState (g a b n : Nat) (zs : List Nat) (rest : List Value) (w wr : World) (zk : List Nat) (i : Nat) : Prop where
  len : zk.length = n
  wit : within a b zs zk
  so : sortedR zk a i
  blk : Blk .u64 36 wr g zk rest
  gr : w.grownBy wr (some g)
/-- .. and the element at j is on its way down. -/
structure JState (g a b n : Nat) (zs : List Nat) (rest : List Value) (w wr : World) (zk : List Nat) (i j : Nat) : Prop where
  len : zk.length = n
  wit : within a b zs zk
  so : nearly zk a i j
  blk : Blk .u64 36 wr g zk rest
  gr : w.grownBy wr (some g)

theorem IState.drewN {g a b n : Nat} {zs : List Nat} {rest : List Value} {w wr : World} {zk : List Nat} {i : Nat} (h : IState g a b n zs rest w wr zk i) (q : Nat) : IState g a b n zs rest w (wr.drewN q) zk i :=
  ⟨h.len, h.wit, h.so, h.blk.drewN q, grown_drewN h.gr q⟩
theorem JState.drewN {g a b n : Nat} {zs : List Nat} {rest : List Value} {w wr : World} {zk : List Nat} {i j : Nat} (h : JState g a b n zs rest w wr zk i j) (q : Nat) : JState g a b n zs rest w (wr.drewN q) zk i j :=
  ⟨h.len, h.wit, h.so, h.blk.drewN q, grown_drewN h.gr q⟩
theorem IState.start {g a b n : Nat} {zs : List Nat} {rest : List Value} {w wr : World} {zk : List Nat} {i : Nat} (h : IState g a b n zs rest w wr zk (i - 1)) (_ : a < i) : JState g a b n zs rest w wr zk (i - 1) (i - 1) :=
  ⟨h.len, h.wit, nearly_start h.so, h.blk, h.gr⟩
theorem JState.stop {g a b n : Nat} {zs : List Nat} {rest : List Value} {w wr : World} {zk : List Nat} {i j : Nat} (h : JState g a b n zs rest w wr zk (i - 1) j) (hi : 0 < i) (hs : j ≤ a ∨ at0 zk (j - 1) ≤ at0 zk j) : IState g a b n zs rest w wr zk i :=
  ⟨h.len, h.wit, by have e := nearly_stop h.so hs; rwa [show i - 1 + 1 = i by omega] at e, h.blk, h.gr⟩
theorem JState.swapL_ {g a b n : Nat} {zs : List Nat} {rest : List Value} {w wr : World} {zk : List Nat} {i j : Nat} (h : JState g a b n zs rest w wr zk i j) (haj : a < j) (hji : j ≤ i) (hib : i < b) (hb : b ≤ n) (hl : at0 zk j < at0 zk (j - 1)) :
    JState g a b n zs rest w ((wr.setCell ⟨g, j, none⟩ (.int .u64 ((at0 zk (j - 1) : Nat) : Int))).setCell ⟨g, j - 1, none⟩ (.int .u64 ((at0 zk j : Nat) : Int))) (swapL zk j (j - 1)) i (j - 1) := by
  have hn := h.len
  exact ⟨(swapL_length _ _).trans hn, h.wit.trans (within.swap (by omega) (by omega) (by omega) (by omega) (by omega)), nearly_step h.so haj hji (by omega) hl, (h.blk.set (i := j) (by omega) _).set (i := j - 1) (by simp; omega) _, grown_set (grown_set h.gr _ _) _ _⟩
theorem IState.swapR {g a b n : Nat} {zs : List Nat} {rest : List Value} {w wr : World} {zk : List Nat} {i j : Nat} (h : IState g a b n zs rest w wr zk i) (haj : a < j) (hij : i ≤ j - 1) (hjb : j < b) (_ : 0 < j) (hb : b ≤ n) :
    IState g a b n zs rest w ((wr.setCell ⟨g, j, none⟩ (.int .u64 ((at0 zk (j - 1) : Nat) : Int))).setCell ⟨g, j - 1, none⟩ (.int .u64 ((at0 zk j : Nat) : Int))) (swapL zk j (j - 1)) i := by
  have hn := h.len
  refine ⟨(swapL_length _ _).trans hn, h.wit.trans (within.swap (by omega) (by omega) (by omega) (by omega) (by omega)), fun p q h1 h2 h3 => ?_, (h.blk.set (i := j) (by omega) _).set (i := j - 1) (by simp; omega) _, grown_set (grown_set h.gr _ _) _ _⟩
  rw [swapL_at (by omega) (by omega), swapL_at (by omega) (by omega), if_neg (by omega), if_neg (by omega), if_neg (by omega), if_neg (by omega)]
  exact h.so p q h1 h2 h3
theorem IState.less {g a b n : Nat} {zs : List Nat} {rest : List Value} {w wr : World} {zk : List Nat} {i i' : Nat} (h : IState g a b n zs rest w wr zk i) (hi : i' ≤ i) : IState g a b n zs rest w wr zk i' :=
  ⟨h.len, h.wit, fun p q h1 h2 h3 => h.so p q h1 h2 (by omega), h.blk, h.gr⟩
theorem IState.more {g a b n : Nat} {zs : List Nat} {rest : List Value} {w wr : World} {zk : List Nat} {i : Nat} (h : IState g a b n zs rest w wr zk i) (hx : at0 zk (i - 1) ≤ at0 zk i) : IState g a b n zs rest w wr zk (i + 1) :=
  ⟨h.len, h.wit, nearly_stop (nearly_start h.so) (.inr hx), h.blk, h.gr⟩
theorem IState.one {g a b n : Nat} {zs : List Nat} {rest : List Value} {w wr : World} {zk : List Nat} {i i' : Nat} (h : IState g a b n zs rest w wr zk i) (hi : i' ≤ a + 1) : IState g a b n zs rest w wr zk i' :=
  ⟨h.len, h.wit, fun p q h1 h2 h3 => by omega, h.blk, h.gr⟩

theorem wall_kept {zs zk : List Nat} {a b : Nat} (h : ∀ p q, p < a → a ≤ q → q < b → at0 zs p ≤ at0 zs q) (hw : within a b zs zk) (hb : b ≤ zs.length) : ∀ p q, p < a → a ≤ q → q < b → at0 zk p ≤ at0 zk q := fun p q h1 h2 h3 => by
  rw [hw.2 p (.inl h1)]
  exact hw.ge hb (fun i i1 i2 => h p i h1 i1 i2) q h2 h3

set_option maxRecDepth 100000 in
set_option maxHeartbeats 4000000 in
theorem partialSort_lab (g n cap a b : Nat) (zs : List Nat) (rest : List Value) (w : World) (hB : Blk .u64 36 w g zs rest) (hn : zs.length = n) (hab : a < b) (hb : b ≤ n) (hl : n ≤ 2305843009213693952) (hwall : Hid (∀ p q, p < a → a ≤ q → q < b → at0 zs p ≤ at0 zs q)) :
    Calls Try.prog 64 #[.slice (some ⟨g, 0, none⟩) n cap, .int .i64 (a : Int), .int .i64 (b : Int)] w fun e w' => ∃ (r : Bool) (zs' : List Nat), e = .returned (.bool r) ∧ (r = true → sortedR zs' a b) ∧ Moved g a b n zs rest w w' zs' := by
  go_enter Try.func64, Try.ntmps64
  go_wp2
  go_loopw [7, 8] (fun i s wr => ∃ (k t : Nat) (zk : List Nat), i = .int .i64 k ∧ s = .int .i64 t ∧ a < k ∧ k ≤ b ∧ t ≤ 5 ∧ IState g a b n zs rest w wr zk k) (fun _ s _ => 5 - (intOf s).toNat)
  case atStart => exact ⟨a + 1, 0, zs, by go_num, rfl, by omega, by omega, by omega, hn, within.refl _ _ _, fun p q h1 h2 h3 => by omega, hB, World.grownBy.refl _ _⟩
  case round =>
    obtain ⟨k, t, zk, rfl, rfl, hak, hkb, ht, hst⟩ := hrel
    by_cases ht5 : t < 5
    · have ht6 : (t : Int) < 5 := by omega
      go_wp2
      go_loopw [7] (fun i wr2 => ∃ (k : Nat), i = .int .i64 k ∧ a < k ∧ k ≤ b ∧ IState g a b n zs rest w wr2 zk k) (fun i _ => b - (intOf i).toNat)
      case atStart => exact ⟨k, rfl, hak, hkb, hst⟩
      case round =>
        clear hst hak hkb
        obtain ⟨kk, rfl, hak, hkb, hst⟩ := hrel
        by_cases hlt : kk < b
        · have hd : decide ((kk : Int) < (b : Int)) = true := by simpa using hlt
          have hne : ¬ kk = b := by omega
          have hln := hst.len
          have hc1 := hst.blk.cell (i := kk) (by omega)
          have hc2 := hst.blk.cell (i := kk - 1) (by omega)
          have hf1 := hst.blk.frozen kk
          have hf2 := hst.blk.frozen (kk - 1)
          obtain ⟨x, hx⟩ : ∃ x, x = at0 zk kk := ⟨_, rfl⟩
          obtain ⟨y, hy⟩ : ∃ y, y = at0 zk (kk - 1) := ⟨_, rfl⟩
          have HX : Hid (x = at0 zk kk) := hx
          have HY : Hid (y = at0 zk (kk - 1)) := hy
          rw [← hx] at hc1
          rw [← hy] at hc2
          have hi1 : (kk : Int) < (n : Int) := by omega
          have hi2 : (kk : Int) - 1 < (n : Int) := by omega
          have hi3 : (0 : Int) ≤ (kk : Int) - 1 := by omega
          have HS2 := hide_it hst
          clear hx hy hln hst
          by_cases hxy : x < y
          · have hdx : decide (x < y) = true := by simpa using hxy
            by_cases h50 : b - a < 50
            · have h51 : (b : Int) - (a : Int) < 50 := by omega
              go_wp2
              go_quiet ((go_at_call 65; exact Calls.quiet_of_same (less_lab _ _ _)))
              go_wp2
              go_ret
              exact ⟨false, zk, rfl, fun h => Bool.noConfusion h, (HS2.out.drewN nq).len, (HS2.out.drewN nq).wit, (HS2.out.drewN nq).blk, (HS2.out.drewN nq).gr⟩
            · have h51 : (50 : Int) ≤ (b : Int) - (a : Int) := by omega
              go_wp2
              go_quiet ((go_at_call 65; exact Calls.quiet_of_same (less_lab _ _ _)))
              go_wp2
              go_region
              have hz := (HS2.out.less (i' := kk - 1) (by omega)).drewN (nq + 1) |>.swapR (j := kk) (by omega) (by omega) (by omega) (by omega) hb
              rw [← HX.out, ← HY.out] at hz
              by_cases ha2 : 2 ≤ kk - a
              · have ha3 : (2 : Int) ≤ (kk : Int) - (a : Int) := by omega
                have HS := hide_it hz
                clear hz HS2 HX HY hc1 hc2 hf1 hf2 hi1 hi2 hi3 hdx hxy
                go_wp2
                go_loopw [9] (fun i wr3 => ∃ (j : Nat) (zj : List Nat), i = .int .i64 j ∧ a ≤ j ∧ j ≤ kk - 1 ∧ JState g a b n zs rest w wr3 zj (kk - 1) j) (fun i _ => (intOf i).toNat)
                case atStart => exact ⟨kk - 1, _, by congr 1; omega, by omega, by omega, HS.out.start (by omega)⟩
                case round =>
                  clear HS
                  obtain ⟨j, zj, rfl, haj, hjk, hst3⟩ := hrel
                  by_cases hj1 : 1 ≤ j
                  · have hj2 : (1 : Int) ≤ (j : Int) := by omega
                    have HW3 : Hid (a = j → at0 zj (j - 1) ≤ at0 zj j) := hide_it (fun e => wall_kept hwall.out hst3.wit (by omega) (j - 1) j (by omega) (by omega) (by omega))
                    have hln := hst3.len
                    have hc1 := hst3.blk.cell (i := j) (by omega)
                    have hc2 := hst3.blk.cell (i := j - 1) (by omega)
                    have hf1 := hst3.blk.frozen j
                    have hf2 := hst3.blk.frozen (j - 1)
                    obtain ⟨x, hx⟩ : ∃ x, x = at0 zj j := ⟨_, rfl⟩
                    obtain ⟨y, hy⟩ : ∃ y, y = at0 zj (j - 1) := ⟨_, rfl⟩
                    have HX : Hid (x = at0 zj j) := hx
                    have HY : Hid (y = at0 zj (j - 1)) := hy
                    rw [← hx] at hc1
                    rw [← hy] at hc2
                    have hi1 : (j : Int) < (n : Int) := by omega
                    have hi2 : (j : Int) - 1 < (n : Int) := by omega
                    have hi3 : (0 : Int) ≤ (j : Int) - 1 := by omega
                    have HS2 := hide_it hst3
                    clear hx hy hln hst3
                    by_cases hxy : x < y
                    · have hdx : decide (x < y) = true := by simpa using hxy
                      have haj2 : a < j := by
                        rcases Nat.lt_or_ge a j with h | h
                        · exact h
                        · have e := HW3.out (by omega)
                          rw [← HX.out, ← HY.out] at e
                          omega
                      clear HW3
                      go_wp2
                      go_quiet ((go_at_call 65; exact Calls.quiet_of_same (less_lab _ _ _)))
                      go_wp2
                      go_region
                      all_goals go_wp2
                      go_roundw
                      case rel =>
                        have hz := (HS2.out.drewN (nq + 1)).swapL_ (by omega) (by omega) (by omega) hb (by rw [← HX.out, ← HY.out]; exact hxy)
                        rw [← HX.out, ← HY.out] at hz
                        exact ⟨j - 1, _, by congr 1; omega, by omega, by omega, hz⟩
                      case measure => simp [intOf] <;> omega
                    · have hdx : decide (x < y) = false := by simpa using hxy
                      clear HW3
                      go_wp2
                      go_quiet ((go_at_call 65; exact Calls.quiet_of_same (less_lab _ _ _)))
                      have HS := hide_it ((HS2.out.drewN nq).stop (by omega) (.inr (by rw [← HX.out, ← HY.out]; omega)))
                      clear HS2 HX HY hc1 hc2 hf1 hf2 hi1 hi2 hi3 hdx hxy
                      by_cases hb2 : 2 ≤ b - kk
                      · have hb3 : (2 : Int) ≤ (b : Int) - (kk : Int) := by omega
                        go_wp2
                        go_loopw [10] (fun i wr4 => ∃ (j : Nat) (zm : List Nat), i = .int .i64 j ∧ kk < j ∧ j ≤ b ∧ IState g a b n zs rest w wr4 zm kk) (fun i _ => b - (intOf i).toNat)
                        case atStart => exact ⟨kk + 1, _, by go_num, by omega, by omega, HS.out⟩
                        case round =>
                          clear HS
                          obtain ⟨j, zm, rfl, hkj, hjb, hst4⟩ := hrel
                          by_cases hj4 : j < b
                          · have hj5 : (j : Int) < (b : Int) := by omega
                            have hln := hst4.len
                            have hc1 := hst4.blk.cell (i := j) (by omega)
                            have hc2 := hst4.blk.cell (i := j - 1) (by omega)
                            have hf1 := hst4.blk.frozen j
                            have hf2 := hst4.blk.frozen (j - 1)
                            obtain ⟨x, hx⟩ : ∃ x, x = at0 zm j := ⟨_, rfl⟩
                            obtain ⟨y, hy⟩ : ∃ y, y = at0 zm (j - 1) := ⟨_, rfl⟩
                            have HX : Hid (x = at0 zm j) := hx
                            have HY : Hid (y = at0 zm (j - 1)) := hy
                            rw [← hx] at hc1
                            rw [← hy] at hc2
                            have hi1 : (j : Int) < (n : Int) := by omega
                            have hi2 : (j : Int) - 1 < (n : Int) := by omega
                            have hi3 : (0 : Int) ≤ (j : Int) - 1 := by omega
                            have HS2 := hide_it hst4
                            clear hx hy hln hst4
                            by_cases hxy : x < y
                            · have hdx : decide (x < y) = true := by simpa using hxy
                              go_wp2
                              go_quiet ((go_at_call 65; exact Calls.quiet_of_same (less_lab _ _ _)))
                              go_wp2
                              go_region
                              all_goals go_wp2
                              go_roundw
                              case rel =>
                                have hz := (HS2.out.drewN (nq + 1)).swapR (j := j) (by omega) (by omega) (by omega) (by omega) hb
                                rw [← HX.out, ← HY.out] at hz
                                exact ⟨j + 1, _, by go_num, by omega, by omega, hz⟩
                              case measure => simp [intOf] <;> omega
                            · have hdx : decide (x < y) = false := by simpa using hxy
                              go_wp2
                              go_quiet ((go_at_call 65; exact Calls.quiet_of_same (less_lab _ _ _)))
                              go_wp2
                              go_roundw
                              case rel => exact ⟨kk, t + 1, zm, rfl, by go_num, hak, hkb, by omega, HS2.out.drewN _⟩
                              case measure => simp [intOf] <;> omega
                          · have hj5 : (b : Int) ≤ (j : Int) := by omega
                            go_wp2
                            go_roundw
                            case rel => exact ⟨kk, t + 1, zm, rfl, by go_num, hak, hkb, by omega, hst4⟩
                            case measure => simp [intOf] <;> omega
                      · have hb3 : (b : Int) - (kk : Int) < 2 := by omega
                        go_wp2
                        go_roundw
                        case rel => exact ⟨kk, t + 1, _, rfl, by go_num, hak, hkb, by omega, HS.out⟩
                        case measure => simp [intOf] <;> omega
                  · have hj2 : (j : Int) < 1 := by omega
                    have HS := hide_it (hst3.stop (by omega) (.inl (by omega)))
                    clear hst3
                    by_cases hb2 : 2 ≤ b - kk
                    · have hb3 : (2 : Int) ≤ (b : Int) - (kk : Int) := by omega
                      go_wp2
                      go_loopw [10] (fun i wr4 => ∃ (j : Nat) (zm : List Nat), i = .int .i64 j ∧ kk < j ∧ j ≤ b ∧ IState g a b n zs rest w wr4 zm kk) (fun i _ => b - (intOf i).toNat)
                      case atStart => exact ⟨kk + 1, _, by go_num, by omega, by omega, HS.out⟩
                      case round =>
                        clear HS
                        obtain ⟨j, zm, rfl, hkj, hjb, hst4⟩ := hrel
                        by_cases hj4 : j < b
                        · have hj5 : (j : Int) < (b : Int) := by omega
                          have hln := hst4.len
                          have hc1 := hst4.blk.cell (i := j) (by omega)
                          have hc2 := hst4.blk.cell (i := j - 1) (by omega)
                          have hf1 := hst4.blk.frozen j
                          have hf2 := hst4.blk.frozen (j - 1)
                          obtain ⟨x, hx⟩ : ∃ x, x = at0 zm j := ⟨_, rfl⟩
                          obtain ⟨y, hy⟩ : ∃ y, y = at0 zm (j - 1) := ⟨_, rfl⟩
                          have HX : Hid (x = at0 zm j) := hx
                          have HY : Hid (y = at0 zm (j - 1)) := hy
                          rw [← hx] at hc1
                          rw [← hy] at hc2
                          have hi1 : (j : Int) < (n : Int) := by omega
                          have hi2 : (j : Int) - 1 < (n : Int) := by omega
                          have hi3 : (0 : Int) ≤ (j : Int) - 1 := by omega
                          have HS2 := hide_it hst4
                          clear hx hy hln hst4
                          by_cases hxy : x < y
                          · have hdx : decide (x < y) = true := by simpa using hxy
                            go_wp2
                            go_quiet ((go_at_call 65; exact Calls.quiet_of_same (less_lab _ _ _)))
                            go_wp2
                            go_region
                            all_goals go_wp2
                            go_roundw
                            case rel =>
                              have hz := (HS2.out.drewN (nq + 1)).swapR (j := j) (by omega) (by omega) (by omega) (by omega) hb
                              rw [← HX.out, ← HY.out] at hz
                              exact ⟨j + 1, _, by go_num, by omega, by omega, hz⟩
                            case measure => simp [intOf] <;> omega
                          · have hdx : decide (x < y) = false := by simpa using hxy
                            go_wp2
                            go_quiet ((go_at_call 65; exact Calls.quiet_of_same (less_lab _ _ _)))
                            go_wp2
                            go_roundw
                            case rel => exact ⟨kk, t + 1, zm, rfl, by go_num, hak, hkb, by omega, HS2.out.drewN _⟩
                            case measure => simp [intOf] <;> omega
                        · have hj5 : (b : Int) ≤ (j : Int) := by omega
                          go_wp2
                          go_roundw
                          case rel => exact ⟨kk, t + 1, zm, rfl, by go_num, hak, hkb, by omega, hst4⟩
                          case measure => simp [intOf] <;> omega
                    · have hb3 : (b : Int) - (kk : Int) < 2 := by omega
                      go_wp2
                      go_roundw
                      case rel => exact ⟨kk, t + 1, _, rfl, by go_num, hak, hkb, by omega, HS.out⟩
                      case measure => simp [intOf] <;> omega
              · have ha3 : (kk : Int) - (a : Int) < 2 := by omega
                have HS := hide_it (hz.one (i' := kk) (by omega))
                clear hz HS2 HX HY hc1 hc2 hf1 hf2 hi1 hi2 hi3 hdx hxy
                by_cases hb2 : 2 ≤ b - kk
                · have hb3 : (2 : Int) ≤ (b : Int) - (kk : Int) := by omega
                  go_wp2
                  go_loopw [10] (fun i wr4 => ∃ (j : Nat) (zm : List Nat), i = .int .i64 j ∧ kk < j ∧ j ≤ b ∧ IState g a b n zs rest w wr4 zm kk) (fun i _ => b - (intOf i).toNat)
                  case atStart => exact ⟨kk + 1, _, by go_num, by omega, by omega, HS.out⟩
                  case round =>
                    clear HS
                    obtain ⟨j, zm, rfl, hkj, hjb, hst4⟩ := hrel
                    by_cases hj4 : j < b
                    · have hj5 : (j : Int) < (b : Int) := by omega
                      have hln := hst4.len
                      have hc1 := hst4.blk.cell (i := j) (by omega)
                      have hc2 := hst4.blk.cell (i := j - 1) (by omega)
                      have hf1 := hst4.blk.frozen j
                      have hf2 := hst4.blk.frozen (j - 1)
                      obtain ⟨x, hx⟩ : ∃ x, x = at0 zm j := ⟨_, rfl⟩
                      obtain ⟨y, hy⟩ : ∃ y, y = at0 zm (j - 1) := ⟨_, rfl⟩
                      have HX : Hid (x = at0 zm j) := hx
                      have HY : Hid (y = at0 zm (j - 1)) := hy
                      rw [← hx] at hc1
                      rw [← hy] at hc2
                      have hi1 : (j : Int) < (n : Int) := by omega
                      have hi2 : (j : Int) - 1 < (n : Int) := by omega
                      have hi3 : (0 : Int) ≤ (j : Int) - 1 := by omega
                      have HS2 := hide_it hst4
                      clear hx hy hln hst4
                      by_cases hxy : x < y
                      · have hdx : decide (x < y) = true := by simpa using hxy
                        go_wp2
                        go_quiet ((go_at_call 65; exact Calls.quiet_of_same (less_lab _ _ _)))
                        go_wp2
                        go_region
                        all_goals go_wp2
                        go_roundw
                        case rel =>
                          have hz := (HS2.out.drewN (nq + 1)).swapR (j := j) (by omega) (by omega) (by omega) (by omega) hb
                          rw [← HX.out, ← HY.out] at hz
                          exact ⟨j + 1, _, by go_num, by omega, by omega, hz⟩
                        case measure => simp [intOf] <;> omega
                      · have hdx : decide (x < y) = false := by simpa using hxy
                        go_wp2
                        go_quiet ((go_at_call 65; exact Calls.quiet_of_same (less_lab _ _ _)))
                        go_wp2
                        go_roundw
                        case rel => exact ⟨kk, t + 1, zm, rfl, by go_num, hak, hkb, by omega, HS2.out.drewN _⟩
                        case measure => simp [intOf] <;> omega
                    · have hj5 : (b : Int) ≤ (j : Int) := by omega
                      go_wp2
                      go_roundw
                      case rel => exact ⟨kk, t + 1, zm, rfl, by go_num, hak, hkb, by omega, hst4⟩
                      case measure => simp [intOf] <;> omega
                · exfalso; omega
          · have hdx : decide (x < y) = false := by simpa using hxy
            go_wp2
            go_quiet ((go_at_call 65; exact Calls.quiet_of_same (less_lab _ _ _)))
            go_wp2
            go_roundw
            case rel => exact ⟨kk + 1, by go_num, by omega, by omega, (HS2.out.drewN nq).more (by rw [← HX.out, ← HY.out]; omega)⟩
            case measure => simp [intOf] <;> omega
        · have hd : decide ((kk : Int) < (b : Int)) = false := by simp; omega
          have hne : kk = b := by omega
          have hne2 : (kk : Int) = (b : Int) := by omega
          go_wp2
          go_quiet ((go_at_call 65; exact Calls.quiet_of_same (less_lab _ _ _)))
          go_wp2
          go_ret
          exact ⟨true, zk, rfl, fun _ => hne ▸ hst.so, hst.len, hst.wit, hst.blk.drewN nq, grown_drewN hst.gr nq⟩
    · have ht6 : (5 : Int) ≤ (t : Int) := by omega
      go_wp2
      go_ret
      exact ⟨false, zk, rfl, fun h => Bool.noConfusion h, hst.len, hst.wit, hst.blk, hst.gr⟩

end Go.Proofs.Ythclmkmajlinhab
