/- What the law spoils: a list of ints of the call's own is written over and grows: nothing else turns. -/
import Derived.Test.YthclmkmajlinhaaCov4
import Derived.Test.YthclmkmajlinhaaRm1
namespace Go.Proofs.Ythclmkmajlinhaa
open Go.RowKit

theorem grown_mix {w wr w' : World} {r r' : Option Nat} (h : w.grownBy wr r) (hg : wr.grownBy w' r') (hr : r' = r ∨ ∃ j, r' = some j ∧ w.heap.size ≤ j) : w.grownBy w' r :=
  ⟨hg.os.trans h.os, hg.tape.trans h.tape, hg.output.trans h.output, Nat.le_trans h.size hg.size, fun k hk hne => (hg.block k (Nat.lt_of_lt_of_le hk h.size) (fun e => by
    rcases hr with e2 | ⟨j, e2, hj⟩
    · exact hne (e.trans e2)
    · rw [e2] at e; cases e; omega)).trans (h.block k hk hne)⟩

theorem owns_put {w : World} {base e g n c : Nat} {xs : List Value} (h : w.ownsRow base e 1 (.slice (some ⟨g, 0, none⟩) n c) n xs) (i : Nat) (u : Value) : (w.setCell ⟨g, i, none⟩ u).ownsRow base e 1 (.slice (some ⟨g, 0, none⟩) n c) n (xs.set i u) := by
  refine ⟨by rw [List.length_set]; exact h.1, ?_⟩
  rcases h.2 with ⟨h2, _⟩ | ⟨g', cap', cur, e', h3, hh, h4, h5, h6, h7⟩
  · cases h2
  · cases e'
    refine .inr ⟨g, c, _, rfl, h3, heap_setCell_same w g i _ _ _ hh, h4, h5, by simpa using h6, ?_⟩
    rw [Array.toList_setIfInBounds, List.take_set, h7]
theorem owns_blk {w : World} {base e n c : Nat} {a : Option Addr} {xs : List Value} (h : w.ownsRow base e 1 (.slice a n c) n xs) (h0 : 0 < n) : ∃ g cur, a = some ⟨g, 0, none⟩ ∧ base ≤ g ∧ w.heap[g]? = some (.cells cur e (0, 0)) ∧ n ≤ cur.size := by
  rcases h.2 with ⟨_, h2⟩ | ⟨g', cap', cur, e', h3, hh, h4, h5, h6, h7⟩
  · omega
  · cases e'
    exact ⟨g', cur, rfl, h3, hh, by simp at h6; omega⟩

set_option maxRecDepth 100000 in
set_option maxHeartbeats 2000000 in
theorem spoil_any (a : Option Addr) (n cap : Nat) (mark : Int) (xs : List Value) (w : World) (hm : 0 ≤ mark ∧ mark ≤ 1000000) (hown : w.ownsRow 0 3 1 (.slice a n cap) n xs) (hl : (n + 70) * 8 ≤ 140737488355328) :
    Calls Try.prog 30 #[.slice a n cap, .int .i64 mark] w fun e w' => e = .returned (.tuple #[]) ∧ w.grownBy w' (Value.slice a n cap).ownBlock := by
  obtain ⟨i0, hi, hz0, hz1, hz2⟩ := info_parts infoInt
  obtain ⟨hm1, hm2⟩ := hm
  go_enter Try.func30, Try.ntmps30
  go_wp2_with fail
  go_loopw [4] (fun i wr => ∃ (k : Nat) (ys : List Value), k ≤ n ∧ i = .int .i64 k ∧ wr.ownsRow 0 3 1 (.slice a n cap) n ys ∧ w.grownBy wr (Value.slice a n cap).ownBlock) (fun i _ => n - (intOf i).toNat)
  case atStart => exact ⟨0, xs, by omega, rfl, hown, World.grownBy.refl _ _⟩
  case round =>
    obtain ⟨k, ys, hk, rfl, ho, hg⟩ := hrel
    clear hown
    by_cases hlt : k < n
    · have hi1 : (k : Int) < (n : Int) := by omega
      obtain ⟨g, cur, rfl, _, hh, hcs⟩ := owns_blk ho (by omega)
      obtain ⟨M, hM⟩ : ∃ M : Int, M = mark + (k : Int) := ⟨_, rfl⟩
      have hw : IntKind.i64.wrap (mark + (k : Int)) = M := by rw [IntKind.wrap_i64, hM]; omega
      have hw2 : mark + (k : Int) = M := hM.symm
      have ho2 := owns_put ho k (.int .i64 M)
      have hg2 : w.grownBy (wr.setCell ⟨g, k, none⟩ (.int .i64 M)) (some g) := grown_set hg k _
      have f1 := frozen_of_row wr g k _ _ hh
      obtain ⟨u, hu⟩ : ∃ u, cur[k]? = some u := ⟨_, Array.getElem?_eq_getElem (by omega)⟩
      have c1 := (cell_of_row wr g k _ _ _ hh).trans hu
      clear hM hh hu ho hg
      go_wp2_with fail
      go_roundw
      case rel => exact ⟨k + 1, _, by omega, by go_num, ho2, hg2⟩
      case measure => simp [intOf]; omega
    · have hle : n ≤ k := by omega
      go_wp2_with fail
      go_loopw [0, 5] (fun v i wr => ∃ (m : Nat) (ys : List Value), m ≤ 70 ∧ i = .int .i64 m ∧ wr.ownsRow 0 3 1 v (n + m) ys ∧ w.grownBy wr (Value.slice a n cap).ownBlock ∧ (v.ownBlock = (Value.slice a n cap).ownBlock ∨ ∃ j, v.ownBlock = some j ∧ w.heap.size ≤ j)) (fun _ i _ => 70 - (intOf i).toNat)
      case atStart => exact ⟨0, ys, by omega, rfl, ho, hg, .inl rfl⟩
      case round =>
        clear ho hg
        obtain ⟨m, ys, hm70, rfl, ho, hg, hor⟩ := hrel
        by_cases hlt2 : m < 70
        · have hd : decide ((m : Int) < 70) = true := by simp; omega
          obtain ⟨M, hM⟩ : ∃ M : Int, M = mark - 1 - (m : Int) := ⟨_, rfl⟩
          have hw1 : IntKind.i64.wrap (mark - 1) = mark - 1 := by rw [IntKind.wrap_i64]; omega
          have hw : IntKind.i64.wrap (mark - 1 - (m : Int)) = M := by rw [IntKind.wrap_i64, hM]; omega
          have hw2 : mark - 1 - (m : Int) = M := hM.symm
          have hone : ∀ u ∈ [Value.int .i64 M], u.oneCell' = true := by simp [Value.oneCell']
          have hsz := hg.size
          clear hM
          go_wp2_with (at_builtin; refine wpList_append_own_at _ rfl _ _ 32 rfl 0 3 i0 (.int .i64 0) 1 8 Try.underlying32 hi hz0 hz1 hz2 rfl (by omega) _ _ _ rfl (ho.alloc _) ⟨wr.heap.size, 0, none⟩ 1 1 [.int .i64 M] rfl rfl (cell_one_new wr (.int .i64 M) 3) hone (by unfold maxLen; omega) (by omega) (by omega) ?_; intro v4 w4 hown4 hgrow4 hnil4 hat4)
          have hg1 : w.grownBy (wr.alloc (.cells #[.int .i64 M] 3)) (Value.slice a n cap).ownBlock := hg.trans (World.grownBy_alloc _ _ _)
          go_roundw
          case rel => exact ⟨m + 1, _, by omega, by go_num, hown4, grown_mix hg1 hgrow4 hor, by
              rcases hat4 with e | e
              · rcases hor with e2 | ⟨j, e2, e3⟩
                · exact .inl (e.trans e2)
                · exact .inr ⟨j, e.trans e2, e3⟩
              · exact .inr ⟨_, e, by simp; omega⟩⟩
          case measure => simp [intOf]; omega
        · go_wp2_with fail
          go_end0
          exact ⟨rfl, hg⟩

end Go.Proofs.Ythclmkmajlinhaa
