/- What Close answers: ErrCount where there are no labels or seventeen in the closure, else the closure, rising. -/
import Derived.Test.YthclmkmajlinhabIter
import Derived.Test.YthclmkmajlinhabSort2
namespace Go.Proofs.Ythclmkmajlinhab
open Go.RowKit Go.Maps

/-- slices.Sort sorts rows of up to N labels. -/
def SortsL (N : Nat) : Prop := ∀ (g n cap : Nat) (zs : List Nat) (rest : List Value) (w : World), Blk .u64 36 w g zs rest → zs.length = n → n ≤ N →
  Calls Try.prog 34 #[.slice (some ⟨g, 0, none⟩) n cap] w fun e w' => e = .returned (.tuple #[]) ∧
      ∃ zs', zs'.Perm zs ∧ sortedR zs' 0 n ∧ Blk .u64 36 w' g zs' rest ∧ w.grownBy w' (some g)

theorem sortsL12 : SortsL 12 := fun g n cap zs rest w hB hn h12 => sort_small_lab g n cap zs rest w hB hn h12

set_option maxHeartbeats 400000 in
theorem ins_none (p : Option Addr) (cap : Nat) (w : World) : Calls Try.prog 59 #[.slice p 0 cap, .int .i64 0, .int .i64 0] w fun e w' => e = .returned (.tuple #[]) ∧ w' = w := by
  go_enter Try.func59, Try.ntmps59
  go_wp2
  refine wp_loop_rounds 1 ?_
  rw [rounds_succ]
  go_wp2
  go_end0
  exact ⟨rfl, rfl⟩
set_option maxHeartbeats 400000 in
theorem pdq_none (p : Option Addr) (cap : Nat) (m : Int) (w : World) : Calls Try.prog 44 #[.slice p 0 cap, .int .i64 0, .int .i64 0, .int .i64 m] w fun e w' => e = .returned (.tuple #[]) ∧ w' = w := by
  go_enter Try.func44, Try.ntmps44
  go_wp2
  refine wp_loop_rounds 1 ?_
  rw [rounds_succ]
  go_wp2_with (go_at_call 59; refine (ins_none _ _ _).mono ?_; rintro e w' ⟨rfl, rfl⟩)
  exact bodyPost_ret (results_none rfl _ _ _) rfl ⟨rfl, rfl⟩
set_option maxHeartbeats 400000 in
theorem sort_none (p : Option Addr) (cap : Nat) (w : World) : Calls Try.prog 34 #[.slice p 0 cap] w fun e w' => e = .returned (.tuple #[]) ∧ w' = w := by
  have h12 : (0 : Nat) ≤ 12 := by omega
  go_enter Try.func34, Try.ntmps34
  go_wp2_with fail
  refine (len_small 0 _ h12).mono ?_
  rintro e w1 ⟨⟨m, rfl⟩, rfl⟩
  go_wp2_with (go_at_call 44; refine (pdq_none _ _ _ _).mono ?_; rintro e w' ⟨rfl, rfl⟩)
  go_end0
  exact ⟨rfl, rfl⟩

set_option maxHeartbeats 400000 in
theorem ins_noneI (p : Option Addr) (cap : Nat) (w : World) : Calls Try.prog 46 #[.slice p 0 cap, .int .i64 0, .int .i64 0] w fun e w' => e = .returned (.tuple #[]) ∧ w' = w := by
  go_enter Try.func46, Try.ntmps46
  go_wp2
  refine wp_loop_rounds 1 ?_
  rw [rounds_succ]
  go_wp2
  go_end0
  exact ⟨rfl, rfl⟩
set_option maxHeartbeats 400000 in
theorem pdq_noneI (p : Option Addr) (cap : Nat) (m : Int) (w : World) : Calls Try.prog 38 #[.slice p 0 cap, .int .i64 0, .int .i64 0, .int .i64 m] w fun e w' => e = .returned (.tuple #[]) ∧ w' = w := by
  go_enter Try.func38, Try.ntmps38
  go_wp2
  refine wp_loop_rounds 1 ?_
  rw [rounds_succ]
  go_wp2_with (go_at_call 46; refine (ins_noneI _ _ _).mono ?_; rintro e w' ⟨rfl, rfl⟩)
  exact bodyPost_ret (results_none rfl _ _ _) rfl ⟨rfl, rfl⟩
set_option maxHeartbeats 400000 in
theorem sort_noneI (p : Option Addr) (cap : Nat) (w : World) : Calls Try.prog 23 #[.slice p 0 cap] w fun e w' => e = .returned (.tuple #[]) ∧ w' = w := by
  have h12 : (0 : Nat) ≤ 12 := by omega
  go_enter Try.func23, Try.ntmps23
  go_wp2_with fail
  refine (len_small 0 _ h12).mono ?_
  rintro e w1 ⟨⟨m, rfl⟩, rfl⟩
  go_wp2_with (go_at_call 38; refine (pdq_noneI _ _ _ _).mono ?_; rintro e w' ⟨rfl, rfl⟩)
  go_end0
  exact ⟨rfl, rfl⟩

theorem blk_of_row {w : World} {base g n cap : Nat} {zs : List Nat} (h : w.ownsRow base 36 1 (.slice (some ⟨g, 0, none⟩) n cap) n (zs.map encU)) :
    ∃ rest, Blk .u64 36 w g zs rest ∧ zs.length = n ∧ rest.length = cap - n ∧ n ≤ cap ∧ cap ≤ maxLen ∧ base ≤ g := by
  have hl := h.1
  rcases h.2 with ⟨h0, _⟩ | ⟨g', cap', cur, hv, hb, hh, hn, hcap, hsz, htake⟩
  · cases h0
  · cases hv
    refine ⟨cur.toList.drop n, ?_, by simpa using hl, by simp; omega, hn, hcap, hb⟩
    unfold Blk
    rw [hh]
    have e : zs.map (encK .u64) = zs.map encU := rfl
    rw [e, ← htake, Nat.mul_one, List.take_append_drop]
theorem row_of_blk {w : World} {base g n cap : Nat} {zs : List Nat} {rest : List Value} (h : Blk .u64 36 w g zs rest) (hn : zs.length = n) (hr : rest.length = cap - n) (hc : n ≤ cap) (hm : cap ≤ maxLen) (hb : base ≤ g) :
    w.ownsRow base 36 1 (.slice (some ⟨g, 0, none⟩) n cap) n (zs.map encU) := by
  refine ⟨by simp [hn], .inr ⟨g, cap, _, rfl, hb, h, hc, hm, by simp [hn, hr]; omega, ?_⟩⟩
  rw [Nat.mul_one, ← hn]
  have e : zs.length = (zs.map (encK .u64)).length := by simp
  rw [e]
  exact List.take_left


set_option maxHeartbeats 1000000 in
theorem collect_any (Bm b : Nat) (D0 : DataW Unit) (S : List Nat) (w : World) (hBm : Bm < w.heap.size)
    (hm : w.cell? ⟨Bm, 0, none⟩ = some (.map (some b))) (hown : w.ownsMap Try.prog 36 (unitElem (H := Unit)) b S.length D0) (hS : SetIs D0 S) (hl16 : S.length ≤ 1000) :
    Calls Try.prog 40 #[.func (.func 41) #[] #[.pointer (some ⟨Bm, 0, none⟩)]] w fun e W' =>
      ∃ v ss, e = .returned v ∧ ss.Perm S ∧ W'.ownsRow w.heap.size 36 1 v ss.length (ss.map encU) ∧ (v = .slice none 0 0 ↔ ss = []) ∧ Below w.heap.size w W' := by
  have hc := callsIn_wide.1 (appendSeq_in Fence.wide 3 trivial trivial rfl (by omega) Bm b D0 S w hBm hm hown hS hl16)
  clear hm hown
  go_enter Try.func40, Try.ntmps40
  go_wp2_with (go_at_call 57; refine hc.mono ?_; rintro e w' ⟨v, ss, rfl, h1, h2, h3, h4⟩)
  go_ret
  exact ⟨v, ss, rfl, h1, h2, h3, h4⟩

set_option maxHeartbeats 1000000 in
theorem sorted_any (N : Nat) (hN : SortsL N) (Bm b : Nat) (D0 : DataW Unit) (S : List Nat) (w : World) (hBm : Bm < w.heap.size)
    (hm : w.cell? ⟨Bm, 0, none⟩ = some (.map (some b))) (hown : w.ownsMap Try.prog 36 (unitElem (H := Unit)) b S.length D0) (hS : SetIs D0 S) (hl16 : S.length ≤ 1000) (hlN : S.length ≤ N) :
    Calls Try.prog 25 #[.func (.func 41) #[] #[.pointer (some ⟨Bm, 0, none⟩)]] w fun e W' =>
      ∃ v ss, e = .returned v ∧ ss.Perm S ∧ sortedR ss 0 ss.length ∧ W'.ownsRow w.heap.size 36 1 v ss.length (ss.map encU) ∧ Below w.heap.size w W' := by
  have hc := collect_any Bm b D0 S w hBm hm hown hS hl16
  clear hm hown
  go_enter Try.func25, Try.ntmps25
  go_wp2_with fail
  refine hc.mono ?_
  rintro e w1 ⟨v, ss, rfl, h1, h2, h3, h4⟩
  rcases h2.2 with ⟨rfl, hz⟩ | ⟨g, cap, cur, rfl, _⟩
  · have hss : ss = [] := List.eq_nil_of_length_eq_zero hz
    subst hss
    go_wp2_with fail
    refine (sort_none none 0 _).mono ?_
    rintro e w2 ⟨rfl, rfl⟩
    go_wp2
    go_ret
    exact ⟨_, [], rfl, h1, fun p q a b c => by simp at c, h2, h4⟩
  · obtain ⟨rest, hB, hn, hr, hcp, hmx, hbs⟩ := blk_of_row h2
    have hlen : ss.length ≤ N := by rw [h1.length_eq]; exact hlN
    have hcs := hN g ss.length cap ss rest w1 hB rfl hlen
    clear h2 hB h3
    go_wp2_with fail
    refine hcs.mono ?_
    rintro e w2 ⟨rfl, zs, hp, hso, hB2, hg2⟩
    go_wp2
    go_ret
    have hle : zs.length = ss.length := hp.length_eq
    refine ⟨_, zs, rfl, hp.trans h1, by rw [hle]; exact hso, ?_, h4.grown hg2 h4.size (fun j e => by cases e; exact hbs)⟩
    rw [hle]
    exact row_of_blk hB2 hle hr hcp hmx hbs

end Go.Proofs.Ythclmkmajlinhab
