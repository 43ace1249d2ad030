/- Slices of the call's own: written over, laid behind, kept; rooms and marks. -/
import Derived.Test.YtfhinodieghklabTh1
import Derived.Test.YtfhinodieghklabBy5
namespace Go.Proofs.Ytfhinodieghklab
open Go.RowKit

theorem OwnB.keep {w w' : World} {base : Nat} {v : Value} {zs : List Nat} {r : Option Nat} (h : OwnB w base v zs) (hg : w.grownBy w' r) (hne : ∀ j, v.ownBlock = some j → r ≠ some j) : OwnB w' base v zs := by
  refine ⟨h.1, ?_⟩
  rcases h.2 with h2 | ⟨g, cap, cur, rfl, h3, hh, h4⟩
  · exact .inl h2
  · have hlt := (Array.getElem?_eq_some_iff.1 hh).1
    exact .inr ⟨g, cap, cur, rfl, h3, (hg.block g hlt (fun e => hne g rfl e.symm)).trans hh, h4⟩
theorem OwnB.under {w w' : World} {B base : Nat} {v : Value} {zs : List Nat} (h : OwnB w base v zs) (hb : Below B w w') (hlt : ∀ j, v.ownBlock = some j → j < B) : OwnB w' base v zs := by
  refine ⟨h.1, ?_⟩
  rcases h.2 with h2 | ⟨g, cap, cur, rfl, h3, hh, h4⟩
  · exact .inl h2
  · exact .inr ⟨g, cap, cur, rfl, h3, (hb.block g (hlt g rfl)).trans hh, h4⟩
theorem OwnB.inside {w : World} {base : Nat} {v : Value} {zs : List Nat} (h : OwnB w base v zs) : ∀ j, v.ownBlock = some j → j < w.heap.size := by
  rcases h.2 with ⟨rfl, _⟩ | ⟨g, cap, cur, rfl, h3, hh, h4⟩
  · intro j e; cases e
  · intro j e; cases e; exact (Array.getElem?_eq_some_iff.1 hh).1
/-- A slice of one's own that is not empty: its block, its cells. -/
theorem OwnB.at {w : World} {base : Nat} {a : Option Addr} {n cap : Nat} {zs : List Nat} (h : OwnB w base (.slice a n cap) zs) (h0 : 0 < zs.length) :
    ∃ (g : Nat) (cur : Array Value), a = some ⟨g, 0, none⟩ ∧ n = zs.length ∧ base ≤ g ∧ w.heap[g]? = some (.cells cur 5 (0, 0)) ∧ ∀ i, i < zs.length → cur[i]? = some (.int .u8 ((at0 zs i : Nat) : Int)) := by
  obtain ⟨a1, c1, e1, hr, _⟩ := h.row
  cases e1
  rcases h.2 with ⟨_, h2⟩ | ⟨g, cap, cur, e, h3, hh, _⟩
  · omega
  · cases e
    refine ⟨g, cur, rfl, rfl, h3, hh, fun i hi => ?_⟩
    rcases hr with h | ⟨b, o, e, hlt, hc⟩
    · omega
    · cases e
      have := hc i hi
      rw [cell_of_row _ _ _ _ _ _ hh, Nat.zero_add] at this
      exact this
theorem OwnB.set {w : World} {base g cap n : Nat} {zs : List Nat} (h : OwnB w base (.slice (some ⟨g, 0, none⟩) n cap) zs) {i : Nat} (_hi : i < zs.length) (x : Nat) : OwnB (w.setCell ⟨g, i, none⟩ (.int .u8 (x : Int))) base (.slice (some ⟨g, 0, none⟩) n cap) (zs.set i x) := by
  refine ⟨by simp, ?_⟩
  rcases h.2 with ⟨h2, _⟩ | ⟨g', cap', cur, e, h3, hh, h4, h5, h6, h7⟩
  · cases h2
  · cases e
    refine .inr ⟨g, cap, _, by simp, h3, heap_setCell_same w g i _ _ _ hh, by simpa using h4, h5, by simpa using h6, ?_⟩
    rw [List.length_set, Array.toList_setIfInBounds, List.take_set, h7]
    simp [List.map_set, encB]

theorem fill_step {zs : List Nat} {k x : Nat} (hk : k < zs.length) : (List.replicate k x ++ zs.drop k).set k x = List.replicate (k + 1) x ++ zs.drop (k + 1) := by
  rw [List.set_append_right _ _ (by simp)]
  simp only [List.length_replicate, Nat.sub_self]
  rw [List.drop_eq_getElem_cons hk, List.set_cons_zero, List.replicate_succ', List.append_assoc]
  rfl
theorem fill_len {zs : List Nat} {k x : Nat} (hk : k ≤ zs.length) : (List.replicate k x ++ zs.drop k).length = zs.length := by simp; omega
theorem fill_all {zs : List Nat} {x : Nat} : List.replicate zs.length x ++ zs.drop zs.length = List.replicate zs.length x := by simp
theorem more_step (zs : List Nat) (k x : Nat) : zs ++ List.replicate k x ++ [x] = zs ++ List.replicate (k + 1) x := by
  rw [List.append_assoc, ← List.replicate_succ']

/-- Room behind bytes. -/
abbrev room : List Nat := List.replicate 80 165
set_option maxRecDepth 100000 in
set_option maxHeartbeats 400000 in
theorem roomy_any (a : Option Addr) (cap : Nat) (zs : List Nat) (w : World) (hr : RowB w a zs) (hl : zs.length + 80 ≤ 140737488355328) (hnil : a = none → zs.length = 0 ∧ cap = 0) :
    Calls Try.prog 30 #[.slice a zs.length cap] w fun e w' => (∃ r, e = .returned r ∧ OwnB w' w.heap.size r (zs ++ room)) ∧ Below w.heap.size w w' := by
  have hb0 : Below w.heap.size w (w.alloc (.cells #[] 5)) := (Below.refl _ _).alloc (Nat.le_refl _) _
  have hr0 := hr.below hb0
  clear hr
  go_enter Try.func30, Try.ntmps30
  go_wp2_with (at_builtin; refine wpList_append_row _ rfl _ _ rfl w.heap.size _ [] rfl (own_empty w) a cap zs rfl hr0 hnil (by simp; omega) hb0.size ?_; intro v1 w1 hown1 hg1 hat1)
  have hb1 : Below w.heap.size w w1 := hb0.grown hg1 hb0.size (fun j e => by cases e; exact Nat.le_refl _)
  rw [List.nil_append] at hown1
  clear hr0 hg1 hnil hat1
  go_loopw [3, 7] (fun r i wr => ∃ k : Nat, k ≤ 80 ∧ i = .int .i64 (k : Int) ∧ OwnB wr w.heap.size r (zs ++ List.replicate k 165) ∧ Below w.heap.size w wr) (fun _ i _ => 80 - (intOf i).toNat)
  case atStart => exact ⟨0, by omega, rfl, by simpa using hown1, hb1⟩
  case round =>
    obtain ⟨k, hk, rfl, hown, hbl⟩ := hrel
    clear hown1 hb1
    by_cases hlt : k < 80
    · have hbs := hbl.size
      have hd : decide ((k : Int) < 80) = true := by simp; omega
      have hlen : (zs ++ List.replicate k 165).length ≤ zs.length + 79 := by simp; omega
      go_wp2_with (at_builtin; refine wpList_append_byte _ rfl _ _ rfl w.heap.size _ _ rfl hown 165 rfl (by omega) hbs ?_; intro v4 w4 hown4 hg4 hat4)
      go_roundw
      case rel => exact ⟨k + 1, by omega, by go_num, by rw [← more_step]; exact hown4, (hbl.alloc hbs _).grown hg4 (by simp; omega) (fun j e => hown.ge e)⟩
      case measure => simp [intOf]; omega
    · have hk8 : k = 80 := by omega
      subst hk8
      go_wp2_with fail
      go_ret
      exact ⟨⟨_, rfl, hown⟩, hbl⟩

set_option maxRecDepth 100000 in
set_option maxHeartbeats 400000 in
theorem whole_any (a b : Option Addr) (ca cb : Nat) (A zs : List Nat) (w : World) (hA : RowB w a A) (hr : RowB w b zs) (hl : zs.length + 80 ≤ 140737488355328) (hAl : A.length ≤ 140737488355328) (hnil : b = none → zs.length = 0 ∧ cb = 0) :
    Calls Try.prog 32 #[.slice a A.length ca, .slice b zs.length cb] w fun e w' => e = .returned (.bool (decide (A = zs ++ room))) ∧ Below w.heap.size w w' := by
  have hx := roomy_any b cb zs w hr hl hnil
  go_enter Try.func32, Try.ntmps32
  go_wp2_with fail
  refine hx.mono ?_
  rintro e w1 ⟨⟨r, rfl, ho⟩, hb1⟩
  obtain ⟨a1, c1, hv1, hr1, _, _, _⟩ := ho.row
  subst hv1
  have heq := equal_any a a1 ca c1 A (zs ++ room) w1 (hA.below hb1) hr1 (by unfold maxLen; omega) (by unfold maxLen; simp; omega)
  have HB := hide_it hb1
  obtain ⟨R, hR⟩ : ∃ R, R = zs ++ room := ⟨_, rfl⟩
  rw [← hR] at heq ⊢
  have HR := hide_it hR
  clear hx ho hr1 hb1 hA hr hR
  go_wp2_with fail
  refine heq.mono ?_
  rintro e w2 ⟨rfl, q2, rfl⟩
  clear heq
  go_wp2_with fail
  go_ret
  exact ⟨by rw [← HR.out]; rfl, below_drewN HB.out q2⟩

set_option maxRecDepth 100000 in
set_option maxHeartbeats 400000 in
theorem marked_any (a : Option Addr) (ca n x y : Nat) (zs : List Nat) (w : World) (hr : RowB w a zs) (hl : zs.length ≤ 140737488355328) (_hn : n ≤ 140737488355328) (hz : ∀ i, i < zs.length → at0 zs i = if i < n then x else y) :
    Calls Try.prog 33 #[.slice a zs.length ca, .int .i64 (n : Int), .int .u8 (x : Int), .int .u8 (y : Int)] w fun e w' => e = .returned (.bool true) ∧ w' = w := by
  go_enter Try.func33, Try.ntmps33
  go_wp2_with fail
  go_loop [13] (fun i => ∃ k : Nat, k ≤ zs.length ∧ i = .int .i64 (k : Int)) (fun i => zs.length - (intOf i).toNat)
  case atStart => exact ⟨0, by omega, rfl⟩
  case round =>
    obtain ⟨k, hk, rfl⟩ := hrel
    by_cases hlt : k < zs.length
    · obtain ⟨b, o, rfl, hbl, hc⟩ := hr.here hlt
      have hck := hc k hlt
      have hzk := hz k hlt
      have hi1 : (k : Int) < (zs.length : Int) := by omega
      clear hc hz
      by_cases hkn : k < n
      · rw [if_pos hkn] at hzk
        rw [hzk] at hck
        have hd1 : decide ((k : Int) < (n : Int)) = true := by simp; omega
        have hd2 : decide ((n : Int) ≤ (k : Int)) = false := by simp; omega
        clear hzk
        go_wp2_with fail
        go_round
        case rel => exact ⟨k + 1, by omega, by go_num⟩
        case measure => simp [intOf]; omega
      · rw [if_neg hkn] at hzk
        rw [hzk] at hck
        have hd1 : decide ((k : Int) < (n : Int)) = false := by simp; omega
        have hd2 : decide ((n : Int) ≤ (k : Int)) = true := by simp; omega
        clear hzk
        go_wp2_with fail
        go_round
        case rel => exact ⟨k + 1, by omega, by go_num⟩
        case measure => simp [intOf]; omega
    · have hd : decide ((k : Int) < (zs.length : Int)) = false := by simp; omega
      go_wp2_with fail
      go_ret
      exact ⟨rfl, rfl⟩
end Go.Proofs.Ytfhinodieghklab
