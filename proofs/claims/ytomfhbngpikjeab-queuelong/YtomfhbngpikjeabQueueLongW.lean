/- The walk of the law QueueLong. -/
import Derived.Test.YtomfhbngpikjeabQuFix
namespace Go.Proofs.Ytomfhbngpikjeab.queueLong
open Go.RowKit

/-- So many numbers in a row, from i on. -/
def seg (i n : Nat) : List Int := (List.range n).map (fun j => ((i + j : Nat) : Int))
theorem seg_len (i n : Nat) : (seg i n).length = n := by simp [seg]
theorem seg_snoc (i n : Nat) : seg i n ++ [((i + n : Nat) : Int)] = seg i (n + 1) := by simp [seg, List.range_succ]
theorem seg_cons (i n : Nat) : seg i (n + 1) = (i : Int) :: seg (i + 1) n := by
  unfold seg
  rw [List.range_succ_eq_map, List.map_cons, List.map_map]
  congr 1
  apply List.map_congr_left
  intro j _
  simp only [Function.comp_apply]
  congr 1
  omega

set_option maxRecDepth 100000 in
set_option maxHeartbeats 1000000 in
theorem walk_out (size held turns : Int) (h : size < 1 ∨ 200 < size ∨ held < 0 ∨ size ≤ held ∨ turns < 0 ∨ 3000 < turns) (w : World) :
    Calls Try.prog 4 #[.int .i64 size, .int .i64 held, .int .i64 turns] w fun e w' => e = .returned (.bool true) ∧ Below w.heap.size w w' := by
  have hfx := fixed_any w
  by_cases h1 : size < 1
  · clear h
    go_enter Try.func4, Try.ntmps4
    go_wp2_with fail
    refine hfx.mono ?_
    rintro e w1 ⟨rfl, hb1⟩
    go_wp2
    go_ret
    exact ⟨rfl, hb1⟩
  by_cases h2 : 200 < size
  · clear h
    go_enter Try.func4, Try.ntmps4
    go_wp2_with fail
    refine hfx.mono ?_
    rintro e w1 ⟨rfl, hb1⟩
    go_wp2
    go_ret
    exact ⟨rfl, hb1⟩
  by_cases h3 : held < 0
  · clear h
    go_enter Try.func4, Try.ntmps4
    go_wp2_with fail
    refine hfx.mono ?_
    rintro e w1 ⟨rfl, hb1⟩
    go_wp2
    go_ret
    exact ⟨rfl, hb1⟩
  by_cases h4 : size ≤ held
  · clear h
    go_enter Try.func4, Try.ntmps4
    go_wp2_with fail
    refine hfx.mono ?_
    rintro e w1 ⟨rfl, hb1⟩
    go_wp2
    go_ret
    exact ⟨rfl, hb1⟩
  by_cases h5 : turns < 0
  · clear h
    go_enter Try.func4, Try.ntmps4
    go_wp2_with fail
    refine hfx.mono ?_
    rintro e w1 ⟨rfl, hb1⟩
    go_wp2
    go_ret
    exact ⟨rfl, hb1⟩
  have h6 : 3000 < turns := by omega
  clear h
  go_enter Try.func4, Try.ntmps4
  go_wp2_with fail
  refine hfx.mono ?_
  rintro e w1 ⟨rfl, hb1⟩
  go_wp2
  go_ret
  exact ⟨rfl, hb1⟩

set_option maxRecDepth 100000 in
set_option maxHeartbeats 2000000 in
theorem walk_in (size held turns : Nat) (h1 : 1 ≤ size) (h2 : size ≤ 200) (h4 : held < size) (h6 : turns ≤ 3000) (w : World) :
    Calls Try.prog 4 #[.int .i64 (size : Int), .int .i64 (held : Int), .int .i64 (turns : Int)] w fun e w' => e = .returned (.bool true) ∧ Below w.heap.size w w' := by
  have hnew := newI_any size w (by omega)
  have i1 : ¬ (size : Int) < 1 := by omega
  have i2 : ¬ (200 : Int) < (size : Int) := by omega
  have i3 : ¬ (held : Int) < 0 := by omega
  have i4 : ¬ (size : Int) ≤ (held : Int) := by omega
  have i5 : ¬ (turns : Int) < 0 := by omega
  have i6 : ¬ (3000 : Int) < (turns : Int) := by omega
  go_enter Try.func4, Try.ntmps4
  go_wp2_with fail
  refine hnew.mono ?_
  rintro e w1 ⟨rfl, hq1, hb1⟩
  obtain ⟨b, hb⟩ : ∃ b, b = w.heap.size := ⟨_, rfl⟩
  rw [← hb] at hq1 ⊢
  have HB := hide_it hb
  have HQ1 := hide_it hq1
  have HB1 := hide_it hb1
  clear hb hq1 hb1 hnew i1 i2 i3 i4 i5 i6
  go_wp2_with fail
  go_loopw [45] (fun i wr => ∃ k : Nat, k ≤ held ∧ i = .int .i64 k ∧ Hid (∃ g, b ≤ g ∧ QuI wr b g size (seg 0 k)) ∧ Hid (Below b w wr)) (fun i _ => held - (intOf i).toNat)
  case atStart => exact ⟨0, Nat.zero_le _, rfl, ⟨b, Nat.le_refl _, HQ1.out⟩, show Below b w w1 by rw [HB.out]; exact HB1.out⟩
  case round =>
    obtain ⟨k, hk, rfl, HQ, HBL⟩ := hrel
    clear HQ1 HB1
    by_cases hlt : k < held
    · have hki : (k : Int) < (held : Int) := by omega
      have hw1 : IntKind.i64.wrap ((k : Int) + 1) = (k : Int) + 1 := i64_in (by omega) (by omega)
      obtain ⟨g, hg, hq⟩ := HQ.out
      have hpu := pushI_any b g size (seg 0 k) (k : Int) wr hq (by rw [seg_len]; omega)
      have hbz : b ≤ wr.heap.size := Nat.le_of_lt hq.lt.1
      clear HQ hq
      go_wp2_with fail
      refine hpu.mono ?_
      rintro e w5 ⟨rfl, ⟨g5, hg5, hq5⟩, ho5⟩
      have HQ5 := hide_it hq5
      have HO5 := hide_it ho5
      have HG5 := hide_it hg5
      clear hpu hq5 ho5 hg5
      go_wp2
      go_roundw
      case rel =>
        refine ⟨k + 1, by omega, by go_num, ⟨g5, ?_, ?_⟩, HBL.out.trans (HO5.out.below (Nat.le_refl _) hg hbz)⟩
        · rcases HG5.out with e | e <;> omega
        · have := HQ5.out
          rw [← seg_snoc 0 k, Nat.zero_add]
          exact this
      case measure => simp [intOf]; omega
    · have hkh : k = held := by omega
      subst hkh
      go_wp2_with fail
      go_loopw [54] (fun i wr => ∃ m : Nat, m ≤ turns ∧ i = .int .i64 m ∧ Hid (∃ g, b ≤ g ∧ QuI wr b g size (seg m k)) ∧ Hid (Below b w wr)) (fun i _ => turns - (intOf i).toNat)
      case atStart => exact ⟨0, Nat.zero_le _, rfl, HQ, HBL⟩
      case round =>
        obtain ⟨m, hm, rfl, HQm, HBm⟩ := hrel
        obtain ⟨g, hg, hq⟩ := HQm.out
        clear HQm HQ HBL
        by_cases hlt2 : m < turns
        · have hmi : (m : Int) < (turns : Int) := by omega
          have hw1 : IntKind.i64.wrap ((m : Int) + 1) = (m : Int) + 1 := i64_in (by omega) (by omega)
          have hw2 : IntKind.i64.wrap ((k : Int) + (m : Int)) = (k : Int) + (m : Int) := i64_in (by omega) (by omega)
          have hpu := pushI_any b g size (seg m k) ((k : Int) + (m : Int)) wr hq (by rw [seg_len]; omega)
          have hsg : seg m k ++ [((k : Int) + (m : Int))] = (m : Int) :: seg (m + 1) k := by
            rw [← seg_cons, ← seg_snoc]
            congr 2
            omega
          rw [hsg] at hpu
          have hbz : b ≤ wr.heap.size := Nat.le_of_lt hq.lt.1
          clear hq hsg
          go_wp2_with fail
          refine hpu.mono ?_
          rintro e w5 ⟨rfl, ⟨g5, hg5, hq5⟩, ho5⟩
          have hpo := popI_cons b g5 size (m : Int) (seg (m + 1) k) w5 hq5
          have hbz5 : b ≤ w5.heap.size := Nat.le_of_lt hq5.lt.1
          have HO5 := hide_it ho5
          have HG5 := hide_it hg5
          clear hpu hq5 ho5 hg5
          go_wp2_with fail
          refine hpo.mono ?_
          rintro e w6 ⟨rfl, hq6, ho6⟩
          have HQ6 := hide_it hq6
          have HO6 := hide_it ho6
          clear hpo hq6 ho6
          go_wp2
          go_roundw
          case rel =>
            have hg5 : b ≤ g5 := by rcases HG5.out with e | e <;> omega
            exact ⟨m + 1, by omega, by go_num, ⟨g5, hg5, HQ6.out⟩, (HBm.out.trans (HO5.out.below (Nat.le_refl _) hg hbz)).trans (HO6.out.below (Nat.le_refl _) hg5 hbz5)⟩
          case measure => simp [intOf]; omega
        · have hle := lenI_any b g size (seg m k) wr hq
          rw [seg_len] at hle
          clear hq
          go_wp2_with fail
          refine hle.mono ?_
          rintro e w5 ⟨rfl, hq⟩
          have hq2 := hq.symm
          subst hq2
          clear hq hle
          go_wp2_with fail
          refine (fixed_any _).mono ?_
          rintro e w6 ⟨rfl, hb6⟩
          have HB6 := hide_it hb6
          clear hb6
          go_wp2
          go_ret
          refine ⟨rfl, ?_⟩
          rw [← HB.out]
          exact HBm.out.trans (HB6.out.mono (by have := HBm.out.size; have := HB.out; omega))

theorem walk (size : Int) (_ : -9223372036854775808 ≤ size ∧ size ≤ 9223372036854775807) (held : Int) (_ : -9223372036854775808 ≤ held ∧ held ≤ 9223372036854775807) (turns : Int) (_ : -9223372036854775808 ≤ turns ∧ turns ≤ 9223372036854775807) (w : World) :
    Calls Try.prog 4 #[.int .i64 size, .int .i64 held, .int .i64 turns] w fun e w' => e = .returned (.bool true) ∧ Below w.heap.size w w' := by
  by_cases h : size < 1 ∨ 200 < size ∨ held < 0 ∨ size ≤ held ∨ turns < 0 ∨ 3000 < turns
  · exact walk_out size held turns h w
  · obtain ⟨s, rfl⟩ : ∃ s : Nat, size = (s : Int) := ⟨size.toNat, by omega⟩
    obtain ⟨d, rfl⟩ : ∃ d : Nat, held = (d : Int) := ⟨held.toNat, by omega⟩
    obtain ⟨t, rfl⟩ : ∃ t : Nat, turns = (t : Int) := ⟨turns.toNat, by omega⟩
    exact walk_in s d t (by omega) (by omega) (by omega) (by omega) w

end Go.Proofs.Ytomfhbngpikjeab.queueLong
