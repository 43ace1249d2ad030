/- The law on a disk that is not there, walked. -/
import Derived.Test.YtjmfmbeijbbdoaaCa12
namespace Go.Proofs.Ytjmfmbeijbbdoaa
open Go.RowKit

/-- What a call of a disk that is not there answers. -/
def calN (x : Cal) : Ans := if 0 ≤ x.k ∧ x.k ≤ 5 then ans0 1 else ans0 0
/-- .. told. -/
structure CaldN (w : World) (A : Ans) (e : Ending) (w' : World) : Prop where
  ex : ∃ v, e = .returned v ∧ TV w' w.heap.size v A
  bel : Below w.heap.size w w'

theorem below_call {w w1 w' : World} (x : Cal) (h : Below (callW w x).heap.size (callW w x) w1) (hc : Chg (fun b => b = w.heap.size + 1 ∨ b = w.heap.size + 1 + 1) w1 w') : Below w.heap.size w w' := by
  have hs := callW_size w x
  have h1 := (callW_below w x).trans (h.mono (by omega))
  exact h1.trans (hc.below (fun b hb => by omega) h1.size)
theorem box_below {w w1 : World} (x : Cal) (h : Below (callW w x).heap.size (callW w x) w1) : BoxT w1 (w.heap.size + 1) ∧ BoxT w1 (w.heap.size + 1 + 1) := box_chg (F := fun _ => False) x (fun _ h => h.elim) (Chg.new h)

theorem call_nil (x : Cal) (w : World) : Calls Try.prog 18 #[.pointer none, valC x] w fun e w' => CaldN w (calN x) e w' := by
  have hpn : ∀ W1, Below (callW w x).heap.size (callW w x) W1 → Calls Try.prog 48 #[.pointer none, .int .i64 x.i] W1 fun e w' => e = .returned (.tuple #[.pointer none, .int .i64 1]) ∧ w' = W1 := fun W1 _ => part_nil x.i W1
  have hop : ∀ (E : Int) (e : Ending) (w' : World), (e = .returned (.agg #[.int .i64 E, .int .i64 0, .int .i64 0, .int .i64 0, .slice none 0 0, .slice none 0 0]) ∧ ∃ w1, Below (callW w x).heap.size (callW w x) w1 ∧ Chg (fun b => b = w.heap.size + 1 ∨ b = w.heap.size + 1 + 1) w1 w') → CaldN w (ans0 E) e w' := by
    rintro E e w' ⟨rfl, w1, h1, h2⟩
    exact ⟨⟨_, rfl, tv0 _ _ _ _ _ _⟩, below_call x h1 h2⟩
  unfold calN
  by_cases hk : 0 ≤ x.k ∧ x.k ≤ 5
  · rw [if_pos hk]
    have h6 : x.k = 0 ∨ x.k = 1 ∨ x.k = 2 ∨ x.k = 3 ∨ x.k = 4 ∨ x.k = 5 := by omega
    rcases h6 with e | e | e | e | e | e
    · exact (call_append _ x e w _ 1 (fun w1 h1 => box_below x h1) (append_none _ 1 (by omega) x.i x.p.a x.p.p.length x.p.c _ hpn)).mono (hop _)
    · exact (call_sync _ x e w _ 1 (fun w1 h1 => box_below x h1) (sync_none _ 1 (by omega) x.i _ hpn)).mono (hop _)
    · exact (call_cut _ x e w _ 1 (fun w1 h1 => box_below x h1) (cut_none _ 1 (by omega) x.i x.a _ hpn)).mono (hop _)
    · exact (call_trim _ x e w _ 1 (fun w1 h1 => box_below x h1) (trim_none _ 1 (by omega) x.i x.a _ hpn)).mono (hop _)
    · refine (call_read _ x e w (fun w1 => Below (callW w x).heap.size (callW w x) w1) 1 0 (fun ra rc _ => ra = none ∧ rc = 0) (fun w1 h1 => box_below x h1) ((readD_none _ 1 (by omega) x.i x.a x.b _ (hpn _ (Below.refl _ _))).mono fun e w1 hq => ⟨⟨none, 0, hq.1, rfl, rfl⟩, by rw [hq.2]; exact Below.refl _ _⟩)).mono ?_
      rintro e w' ⟨ra, rc, rfl, w1, ⟨rfl, rfl⟩, h1, h2⟩
      exact hop 1 _ _ ⟨rfl, w1, h1, h2⟩
    · exact (call_bounds _ x e w (fun w1 => Below (callW w x).heap.size (callW w x) w1) 1 0 0 0 (fun w1 h1 => box_below x h1) ((bounds_no _ 1 (by omega) x.i _ (hpn _ (Below.refl _ _))).mono fun e w1 hq => ⟨hq.1, by rw [hq.2]; exact Below.refl _ _⟩)).mono (hop _)
  · rw [if_neg hk]
    by_cases e6 : x.k = 6
    · exact (call_done _ x e6 w (fun w1 => Below (callW w x).heap.size (callW w x) w1) 0 (fun w1 h1 => box_below x h1) ((done_no _ 1 (by omega) x.i _ (hpn _ (Below.refl _ _))).mono fun e w1 hq => ⟨hq.1, by rw [hq.2]; exact Below.refl _ _⟩)).mono (hop 0)
    · by_cases e7 : x.k = 7
      · exact (call_arm _ x e7 w (fun w1 => Below (callW w x).heap.size (callW w x) w1) (fun w1 h1 => box_below x h1) ((arm_nil x.fa x.fn x.fc _).mono fun e w1 hq => ⟨hq.1, by rw [hq.2]; exact Below.refl _ _⟩)).mono (hop 0)
      · by_cases e8 : x.k = 8
        · exact (call_strike _ x e8 w (fun w1 => Below (callW w x).heap.size (callW w x) w1) (fun w1 h1 => box_below x h1) ((strike_nil _).mono fun e w1 hq => ⟨hq.1, by rw [hq.2]; exact Below.refl _ _⟩)).mono (hop 0)
        · by_cases e9 : x.k = 9
          · refine (call_image _ x e9 w (fun w1 => Below (callW w x).heap.size (callW w x) w1) 0 (fun ra rc _ => ra = none ∧ rc = 0) (fun w1 h1 => box_below x h1) ((imageD_nil _).mono fun e w1 hq => ⟨⟨none, 0, hq.1, rfl, rfl⟩, by rw [hq.2]; exact Below.refl _ _⟩)).mono ?_
            rintro e w' ⟨ra, rc, rfl, w1, ⟨rfl, rfl⟩, h1, h2⟩
            exact hop 0 _ _ ⟨rfl, w1, h1, h2⟩
          · by_cases e10 : x.k = 10
            · exact (call_areas _ x e10 w (fun w1 => Below (callW w x).heap.size (callW w x) w1) 0 (fun w1 h1 => box_below x h1) ((areas_nil _).mono fun e w1 hq => ⟨hq.1, by rw [hq.2]; exact Below.refl _ _⟩)).mono (hop 0)
            · refine (call_other _ x (by omega) w).mono ?_
              rintro e w' ⟨rfl, hb⟩
              exact ⟨⟨_, rfl, tv0 _ _ _ _ _ _⟩, hb⟩

namespace diskNone
set_option maxRecDepth 100000 in
set_option maxHeartbeats 1600000 in
theorem walk (a : Option Addr) (n c : Nat) (A : Nat → Cal) (w : World) (hs : CameCal w a n A) :
    Calls Try.prog 6 #[.slice a n c] w fun e w' => e = .returned (.bool true) ∧ Below w.heap.size w w' := by
  have hn := hs.size
  go_enter Try.func6, Try.ntmps6
  go_wp2_with fail
  go_loopw [9, 5, 6] (fun i _ _ wr => ∃ j : Nat, j ≤ n ∧ i = .int .i64 (j : Int) ∧ Below w.heap.size w wr) (fun i _ _ _ => n - (intOf i).toNat)
  case atStart => exact ⟨0, by omega, rfl, Below.refl _ _⟩
  case round =>
    obtain ⟨j, hj, rfl, hbw⟩ := hrel
    by_cases hlt : j < n
    · obtain ⟨b, o, rfl, hbb, d1, d2, d3, d4, d5, d6⟩ := hs.row.here hlt
      have c1 := (hbw.cell (p := ⟨b, o + j * 6, none⟩) hbb).trans d1
      have c2 := (hbw.cell (p := ⟨b, o + j * 6 + 1, none⟩) hbb).trans d2
      have c3 := (hbw.cell (p := ⟨b, o + j * 6 + 2, none⟩) hbb).trans d3
      have c4 := (hbw.cell (p := ⟨b, o + j * 6 + 3, none⟩) hbb).trans d4
      have c5 := (hbw.cell (p := ⟨b, o + j * 6 + 4, none⟩) hbb).trans d5
      have c6 := (hbw.cell (p := ⟨b, o + j * 6 + 5, none⟩) hbb).trans d6
      obtain ⟨x, hx⟩ : ∃ x, x = A j := ⟨_, rfl⟩
      rw [← hx] at c1 c2 c3 c4 c5 c6
      clear d1 d2 d3 d4 d5 d6 hx
      have hcl := fun W => call_nil x W
      by_cases hk : 0 ≤ x.k ∧ x.k ≤ 5
      · have hA : calN x = ans0 1 := if_pos hk
        obtain ⟨hk1, hk2⟩ := hk
        have hk := 0
        rw [hA] at hcl
        clear hA hs
        go_wp2_with fail
        obtain ⟨X, hX⟩ : ∃ X, X = wr.heap.size := ⟨_, rfl⟩
        obtain ⟨W, hW⟩ : ∃ W, W = (wr.alloc (.cells #[.int .i64 x.k, .int .i64 x.i, .int .i64 x.a, .int .i64 x.b, .slice x.p.a x.p.p.length x.p.c, .slice x.fa x.fn x.fc] 45)).alloc (.cells #[.int .i64 1, .int .i64 0, .int .i64 0, .int .i64 0, .slice none 0 0, .slice none 0 0] 47) := ⟨_, rfl⟩
        have hbW : Below wr.heap.size wr W := by rw [hW]; exact ((Below.refl _ _).alloc (Nat.le_refl _) _).alloc (by simp) _
        have g1 : BoxC W X x := by rw [hW, hX]; exact (Below.heap_alloc _ _ _ (by simp)).trans (heap_alloc_new wr _)
        have g2 : W.heap[X + 1]? = some (.cells #[.int .i64 1, .int .i64 0, .int .i64 0, .int .i64 0, .slice none 0 0, .slice none 0 0] 47 (0, 0)) := by
          rw [hW, hX]
          have := heap_alloc_new (wr.alloc (.cells #[.int .i64 x.k, .int .i64 x.i, .int .i64 x.a, .int .i64 x.b, .slice x.p.a x.p.p.length x.p.c, .slice x.fa x.fn x.fc] 45)) (.cells #[.int .i64 1, .int .i64 0, .int .i64 0, .int .i64 0, .slice none 0 0, .slice none 0 0] 47)
          simpa using this
        rw [← hW, ← hX]
        have l1 : X < W.heap.size := (Array.getElem?_eq_some_iff.1 g1).1
        have l2 : X + 1 < W.heap.size := (Array.getElem?_eq_some_iff.1 g2).1
        obtain ⟨e1, e2, e3, e4, e5, e6⟩ := g1.cells
        have f1 := cell_of_row _ _ 0 _ _ _ g2
        have f2 := cell_of_row _ _ 1 _ _ _ g2
        have f3 := cell_of_row _ _ 2 _ _ _ g2
        have f4 := cell_of_row _ _ 3 _ _ _ g2
        have f5 := cell_of_row _ _ 4 _ _ _ g2
        have f6 := cell_of_row _ _ 5 _ _ _ g2
        have hbw2 := hbw.trans (hbW.mono hbw.size)
        have hs2 := hbw2.size
        have hlk := fun (V1 : World) (N : Nat) (v : Value) (A : Ans) (h : TV V1 N v A) => alike_same v (.agg #[.int .i64 1, .int .i64 0, .int .i64 0, .int .i64 0, .slice none 0 0, .slice none 0 0]) N 0 A V1 h
        clear hW hX hbW c1 c2 c3 c4 c5 c6 g1 g2 hbw hk1 hk2 hk
        refine wp_calm ?_
        refine wp_region_held_drew (S := (fun w' => Below W.heap.size W w')) (by kernel_rfl) ?_ (fun hHeld => ?_)
        · exact (Below.refl _ _).drew
        refine take_on (i := 0) (v := ?_) rfl rfl (by kernel_rfl) (by kernel_rfl) (by kernel_rfl) (fun _ _ _ h => h) rfl ?_ hHeld ?_
        rotate_left
        · (intro wq hSq; have q1 := (hSq.cell (p := ⟨X, 0, none⟩) l1).trans e1; have q2 := (hSq.cell (p := ⟨X, 1, none⟩) l1).trans e2; have q3 := (hSq.cell (p := ⟨X, 2, none⟩) l1).trans e3; have q4 := (hSq.cell (p := ⟨X, 3, none⟩) l1).trans e4; have q5 := (hSq.cell (p := ⟨X, 4, none⟩) l1).trans e5; have q6 := (hSq.cell (p := ⟨X, 5, none⟩) l1).trans e6; have r1 := (hSq.cell (p := ⟨X + 1, 0, none⟩) l2).trans f1; have r2 := (hSq.cell (p := ⟨X + 1, 1, none⟩) l2).trans f2; have r3 := (hSq.cell (p := ⟨X + 1, 2, none⟩) l2).trans f3; have r4 := (hSq.cell (p := ⟨X + 1, 3, none⟩) l2).trans f4; have r5 := (hSq.cell (p := ⟨X + 1, 4, none⟩) l2).trans f5; have r6 := (hSq.cell (p := ⟨X + 1, 5, none⟩) l2).trans f6; go_simp <;> first | with_reducible rfl | rfl)
        simp only [Act.put, List.setIfInBounds_toArray, List.set_cons_zero, List.set_cons_succ]
        refine take_on (i := 1) (v := ?_) rfl rfl (by kernel_rfl) (by kernel_rfl) (by kernel_rfl) (fun _ _ _ h => h) rfl ?_ hHeld ?_
        rotate_left
        · (intro wq hSq; have q1 := (hSq.cell (p := ⟨X, 0, none⟩) l1).trans e1; have q2 := (hSq.cell (p := ⟨X, 1, none⟩) l1).trans e2; have q3 := (hSq.cell (p := ⟨X, 2, none⟩) l1).trans e3; have q4 := (hSq.cell (p := ⟨X, 3, none⟩) l1).trans e4; have q5 := (hSq.cell (p := ⟨X, 4, none⟩) l1).trans e5; have q6 := (hSq.cell (p := ⟨X, 5, none⟩) l1).trans e6; have r1 := (hSq.cell (p := ⟨X + 1, 0, none⟩) l2).trans f1; have r2 := (hSq.cell (p := ⟨X + 1, 1, none⟩) l2).trans f2; have r3 := (hSq.cell (p := ⟨X + 1, 2, none⟩) l2).trans f3; have r4 := (hSq.cell (p := ⟨X + 1, 3, none⟩) l2).trans f4; have r5 := (hSq.cell (p := ⟨X + 1, 4, none⟩) l2).trans f5; have r6 := (hSq.cell (p := ⟨X + 1, 5, none⟩) l2).trans f6; go_simp <;> first | with_reducible rfl | rfl)
        simp only [Act.put, List.setIfInBounds_toArray, List.set_cons_zero, List.set_cons_succ]
        refine take_on (i := 3) (v := ?_) rfl rfl (by kernel_rfl) (by kernel_rfl) (by kernel_rfl) (fun _ _ _ h => h) rfl ?_ hHeld ?_
        rotate_left
        · (intro wq hSq; have q1 := (hSq.cell (p := ⟨X, 0, none⟩) l1).trans e1; have q2 := (hSq.cell (p := ⟨X, 1, none⟩) l1).trans e2; have q3 := (hSq.cell (p := ⟨X, 2, none⟩) l1).trans e3; have q4 := (hSq.cell (p := ⟨X, 3, none⟩) l1).trans e4; have q5 := (hSq.cell (p := ⟨X, 4, none⟩) l1).trans e5; have q6 := (hSq.cell (p := ⟨X, 5, none⟩) l1).trans e6; have r1 := (hSq.cell (p := ⟨X + 1, 0, none⟩) l2).trans f1; have r2 := (hSq.cell (p := ⟨X + 1, 1, none⟩) l2).trans f2; have r3 := (hSq.cell (p := ⟨X + 1, 2, none⟩) l2).trans f3; have r4 := (hSq.cell (p := ⟨X + 1, 3, none⟩) l2).trans f4; have r5 := (hSq.cell (p := ⟨X + 1, 4, none⟩) l2).trans f5; have r6 := (hSq.cell (p := ⟨X + 1, 5, none⟩) l2).trans f6; go_simp <;> first | with_reducible rfl | rfl)
        simp only [Act.put, List.setIfInBounds_toArray, List.set_cons_zero, List.set_cons_succ]
        refine take_one (i := 2) rfl (by kernel_rfl) (fun K hK => ?_)
        go_simp
        refine (hcl _).mono ?_; rintro e y1 ⟨⟨v, rfl, hv⟩, hb1⟩; have hy1 := hHeld.trans (hb1.mono hHeld.size)
        try go_wp2_with fail
        refine hK.out _ _ ?_ (fun hHeld => ?_)
        · exact hy1
        clear hK K
        try simp only [Act.put, List.setIfInBounds_toArray, List.set_cons_zero, List.set_cons_succ]
        refine take_one (i := 4) rfl (by kernel_rfl) (fun K hK => ?_)
        go_simp
        refine (hlk _ _ v _ hv (tv0 _ _ _ _ _ _)).mono ?_; rintro e y2 ⟨rfl, hb2⟩; have hy2 := hHeld.trans (hb2.mono hHeld.size)
        try go_wp2_with fail
        refine hK.out _ _ ?_ (fun hHeld => ?_)
        · exact hy2
        clear hK K
        try simp only [Act.put, List.setIfInBounds_toArray, List.set_cons_zero, List.set_cons_succ]
        refine take_on (i := 5) (v := ?_) rfl rfl (by kernel_rfl) (by kernel_rfl) (by kernel_rfl) (fun _ _ _ h => h) rfl ?_ hHeld ?_
        rotate_left
        · (intro wq hSq; have q1 := (hSq.cell (p := ⟨X, 0, none⟩) l1).trans e1; have q2 := (hSq.cell (p := ⟨X, 1, none⟩) l1).trans e2; have q3 := (hSq.cell (p := ⟨X, 2, none⟩) l1).trans e3; have q4 := (hSq.cell (p := ⟨X, 3, none⟩) l1).trans e4; have q5 := (hSq.cell (p := ⟨X, 4, none⟩) l1).trans e5; have q6 := (hSq.cell (p := ⟨X, 5, none⟩) l1).trans e6; have r1 := (hSq.cell (p := ⟨X + 1, 0, none⟩) l2).trans f1; have r2 := (hSq.cell (p := ⟨X + 1, 1, none⟩) l2).trans f2; have r3 := (hSq.cell (p := ⟨X + 1, 2, none⟩) l2).trans f3; have r4 := (hSq.cell (p := ⟨X + 1, 3, none⟩) l2).trans f4; have r5 := (hSq.cell (p := ⟨X + 1, 4, none⟩) l2).trans f5; have r6 := (hSq.cell (p := ⟨X + 1, 5, none⟩) l2).trans f6; go_simp <;> first | with_reducible rfl | rfl)
        simp only [Act.put, List.setIfInBounds_toArray, List.set_cons_zero, List.set_cons_succ]
        refine wpAnyH_done (by kernel_rfl) ?_ _
        have hfin := hbw2.trans (hHeld.mono hs2)
        clear hcl hlk e1 e2 e3 e4 e5 e6 f1 f2 f3 f4 f5 f6 hv hb1 hb2 hy1 hy2 hHeld
        go_wp2_with fail
        go_roundw
        case rel => exact ⟨j + 1, by omega, by go_num, hfin⟩
        case measure => simp [intOf]; omega
      · have hA : calN x = ans0 0 := if_neg hk
        rw [hA] at hcl
        clear hA hs
        by_cases hk1 : 0 ≤ x.k
        · have hk2 : ¬ x.k ≤ 5 := fun h => hk ⟨hk1, h⟩
          go_wp2_with fail
          obtain ⟨X, hX⟩ : ∃ X, X = wr.heap.size := ⟨_, rfl⟩
          obtain ⟨W, hW⟩ : ∃ W, W = (wr.alloc (.cells #[.int .i64 x.k, .int .i64 x.i, .int .i64 x.a, .int .i64 x.b, .slice x.p.a x.p.p.length x.p.c, .slice x.fa x.fn x.fc] 45)).alloc (.cells #[.int .i64 0, .int .i64 0, .int .i64 0, .int .i64 0, .slice none 0 0, .slice none 0 0] 47) := ⟨_, rfl⟩
          have hbW : Below wr.heap.size wr W := by rw [hW]; exact ((Below.refl _ _).alloc (Nat.le_refl _) _).alloc (by simp) _
          have g1 : BoxC W X x := by rw [hW, hX]; exact (Below.heap_alloc _ _ _ (by simp)).trans (heap_alloc_new wr _)
          have g2 : W.heap[X + 1]? = some (.cells #[.int .i64 0, .int .i64 0, .int .i64 0, .int .i64 0, .slice none 0 0, .slice none 0 0] 47 (0, 0)) := by
            rw [hW, hX]
            have := heap_alloc_new (wr.alloc (.cells #[.int .i64 x.k, .int .i64 x.i, .int .i64 x.a, .int .i64 x.b, .slice x.p.a x.p.p.length x.p.c, .slice x.fa x.fn x.fc] 45)) (.cells #[.int .i64 0, .int .i64 0, .int .i64 0, .int .i64 0, .slice none 0 0, .slice none 0 0] 47)
            simpa using this
          rw [← hW, ← hX]
          have l1 : X < W.heap.size := (Array.getElem?_eq_some_iff.1 g1).1
          have l2 : X + 1 < W.heap.size := (Array.getElem?_eq_some_iff.1 g2).1
          obtain ⟨e1, e2, e3, e4, e5, e6⟩ := g1.cells
          have f1 := cell_of_row _ _ 0 _ _ _ g2
          have f2 := cell_of_row _ _ 1 _ _ _ g2
          have f3 := cell_of_row _ _ 2 _ _ _ g2
          have f4 := cell_of_row _ _ 3 _ _ _ g2
          have f5 := cell_of_row _ _ 4 _ _ _ g2
          have f6 := cell_of_row _ _ 5 _ _ _ g2
          have hbw2 := hbw.trans (hbW.mono hbw.size)
          have hs2 := hbw2.size
          have hlk := fun (V1 : World) (N : Nat) (v : Value) (A : Ans) (h : TV V1 N v A) => alike_same v (.agg #[.int .i64 0, .int .i64 0, .int .i64 0, .int .i64 0, .slice none 0 0, .slice none 0 0]) N 0 A V1 h
          clear hW hX hbW c1 c2 c3 c4 c5 c6 g1 g2 hbw hk1 hk2 hk
          refine wp_calm ?_
          refine wp_region_held_drew (S := (fun w' => Below W.heap.size W w')) (by kernel_rfl) ?_ (fun hHeld => ?_)
          · exact (Below.refl _ _).drew
          refine take_on (i := 0) (v := ?_) rfl rfl (by kernel_rfl) (by kernel_rfl) (by kernel_rfl) (fun _ _ _ h => h) rfl ?_ hHeld ?_
          rotate_left
          · (intro wq hSq; have q1 := (hSq.cell (p := ⟨X, 0, none⟩) l1).trans e1; have q2 := (hSq.cell (p := ⟨X, 1, none⟩) l1).trans e2; have q3 := (hSq.cell (p := ⟨X, 2, none⟩) l1).trans e3; have q4 := (hSq.cell (p := ⟨X, 3, none⟩) l1).trans e4; have q5 := (hSq.cell (p := ⟨X, 4, none⟩) l1).trans e5; have q6 := (hSq.cell (p := ⟨X, 5, none⟩) l1).trans e6; have r1 := (hSq.cell (p := ⟨X + 1, 0, none⟩) l2).trans f1; have r2 := (hSq.cell (p := ⟨X + 1, 1, none⟩) l2).trans f2; have r3 := (hSq.cell (p := ⟨X + 1, 2, none⟩) l2).trans f3; have r4 := (hSq.cell (p := ⟨X + 1, 3, none⟩) l2).trans f4; have r5 := (hSq.cell (p := ⟨X + 1, 4, none⟩) l2).trans f5; have r6 := (hSq.cell (p := ⟨X + 1, 5, none⟩) l2).trans f6; go_simp <;> first | with_reducible rfl | rfl)
          simp only [Act.put, List.setIfInBounds_toArray, List.set_cons_zero, List.set_cons_succ]
          refine take_on (i := 1) (v := ?_) rfl rfl (by kernel_rfl) (by kernel_rfl) (by kernel_rfl) (fun _ _ _ h => h) rfl ?_ hHeld ?_
          rotate_left
          · (intro wq hSq; have q1 := (hSq.cell (p := ⟨X, 0, none⟩) l1).trans e1; have q2 := (hSq.cell (p := ⟨X, 1, none⟩) l1).trans e2; have q3 := (hSq.cell (p := ⟨X, 2, none⟩) l1).trans e3; have q4 := (hSq.cell (p := ⟨X, 3, none⟩) l1).trans e4; have q5 := (hSq.cell (p := ⟨X, 4, none⟩) l1).trans e5; have q6 := (hSq.cell (p := ⟨X, 5, none⟩) l1).trans e6; have r1 := (hSq.cell (p := ⟨X + 1, 0, none⟩) l2).trans f1; have r2 := (hSq.cell (p := ⟨X + 1, 1, none⟩) l2).trans f2; have r3 := (hSq.cell (p := ⟨X + 1, 2, none⟩) l2).trans f3; have r4 := (hSq.cell (p := ⟨X + 1, 3, none⟩) l2).trans f4; have r5 := (hSq.cell (p := ⟨X + 1, 4, none⟩) l2).trans f5; have r6 := (hSq.cell (p := ⟨X + 1, 5, none⟩) l2).trans f6; go_simp <;> first | with_reducible rfl | rfl)
          simp only [Act.put, List.setIfInBounds_toArray, List.set_cons_zero, List.set_cons_succ]
          refine take_on (i := 3) (v := ?_) rfl rfl (by kernel_rfl) (by kernel_rfl) (by kernel_rfl) (fun _ _ _ h => h) rfl ?_ hHeld ?_
          rotate_left
          · (intro wq hSq; have q1 := (hSq.cell (p := ⟨X, 0, none⟩) l1).trans e1; have q2 := (hSq.cell (p := ⟨X, 1, none⟩) l1).trans e2; have q3 := (hSq.cell (p := ⟨X, 2, none⟩) l1).trans e3; have q4 := (hSq.cell (p := ⟨X, 3, none⟩) l1).trans e4; have q5 := (hSq.cell (p := ⟨X, 4, none⟩) l1).trans e5; have q6 := (hSq.cell (p := ⟨X, 5, none⟩) l1).trans e6; have r1 := (hSq.cell (p := ⟨X + 1, 0, none⟩) l2).trans f1; have r2 := (hSq.cell (p := ⟨X + 1, 1, none⟩) l2).trans f2; have r3 := (hSq.cell (p := ⟨X + 1, 2, none⟩) l2).trans f3; have r4 := (hSq.cell (p := ⟨X + 1, 3, none⟩) l2).trans f4; have r5 := (hSq.cell (p := ⟨X + 1, 4, none⟩) l2).trans f5; have r6 := (hSq.cell (p := ⟨X + 1, 5, none⟩) l2).trans f6; go_simp <;> first | with_reducible rfl | rfl)
          simp only [Act.put, List.setIfInBounds_toArray, List.set_cons_zero, List.set_cons_succ]
          refine take_one (i := 2) rfl (by kernel_rfl) (fun K hK => ?_)
          go_simp
          refine (hcl _).mono ?_; rintro e y1 ⟨⟨v, rfl, hv⟩, hb1⟩; have hy1 := hHeld.trans (hb1.mono hHeld.size)
          try go_wp2_with fail
          refine hK.out _ _ ?_ (fun hHeld => ?_)
          · exact hy1
          clear hK K
          try simp only [Act.put, List.setIfInBounds_toArray, List.set_cons_zero, List.set_cons_succ]
          refine take_one (i := 4) rfl (by kernel_rfl) (fun K hK => ?_)
          go_simp
          refine (hlk _ _ v _ hv (tv0 _ _ _ _ _ _)).mono ?_; rintro e y2 ⟨rfl, hb2⟩; have hy2 := hHeld.trans (hb2.mono hHeld.size)
          try go_wp2_with fail
          refine hK.out _ _ ?_ (fun hHeld => ?_)
          · exact hy2
          clear hK K
          try simp only [Act.put, List.setIfInBounds_toArray, List.set_cons_zero, List.set_cons_succ]
          refine take_on (i := 5) (v := ?_) rfl rfl (by kernel_rfl) (by kernel_rfl) (by kernel_rfl) (fun _ _ _ h => h) rfl ?_ hHeld ?_
          rotate_left
          · (intro wq hSq; have q1 := (hSq.cell (p := ⟨X, 0, none⟩) l1).trans e1; have q2 := (hSq.cell (p := ⟨X, 1, none⟩) l1).trans e2; have q3 := (hSq.cell (p := ⟨X, 2, none⟩) l1).trans e3; have q4 := (hSq.cell (p := ⟨X, 3, none⟩) l1).trans e4; have q5 := (hSq.cell (p := ⟨X, 4, none⟩) l1).trans e5; have q6 := (hSq.cell (p := ⟨X, 5, none⟩) l1).trans e6; have r1 := (hSq.cell (p := ⟨X + 1, 0, none⟩) l2).trans f1; have r2 := (hSq.cell (p := ⟨X + 1, 1, none⟩) l2).trans f2; have r3 := (hSq.cell (p := ⟨X + 1, 2, none⟩) l2).trans f3; have r4 := (hSq.cell (p := ⟨X + 1, 3, none⟩) l2).trans f4; have r5 := (hSq.cell (p := ⟨X + 1, 4, none⟩) l2).trans f5; have r6 := (hSq.cell (p := ⟨X + 1, 5, none⟩) l2).trans f6; go_simp <;> first | with_reducible rfl | rfl)
          simp only [Act.put, List.setIfInBounds_toArray, List.set_cons_zero, List.set_cons_succ]
          refine wpAnyH_done (by kernel_rfl) ?_ _
          have hfin := hbw2.trans (hHeld.mono hs2)
          clear hcl hlk e1 e2 e3 e4 e5 e6 f1 f2 f3 f4 f5 f6 hv hb1 hb2 hy1 hy2 hHeld
          go_wp2_with fail
          go_roundw
          case rel => exact ⟨j + 1, by omega, by go_num, hfin⟩
          case measure => simp [intOf]; omega
        · have hk2 := 0
          go_wp2_with fail
          obtain ⟨X, hX⟩ : ∃ X, X = wr.heap.size := ⟨_, rfl⟩
          obtain ⟨W, hW⟩ : ∃ W, W = (wr.alloc (.cells #[.int .i64 x.k, .int .i64 x.i, .int .i64 x.a, .int .i64 x.b, .slice x.p.a x.p.p.length x.p.c, .slice x.fa x.fn x.fc] 45)).alloc (.cells #[.int .i64 0, .int .i64 0, .int .i64 0, .int .i64 0, .slice none 0 0, .slice none 0 0] 47) := ⟨_, rfl⟩
          have hbW : Below wr.heap.size wr W := by rw [hW]; exact ((Below.refl _ _).alloc (Nat.le_refl _) _).alloc (by simp) _
          have g1 : BoxC W X x := by rw [hW, hX]; exact (Below.heap_alloc _ _ _ (by simp)).trans (heap_alloc_new wr _)
          have g2 : W.heap[X + 1]? = some (.cells #[.int .i64 0, .int .i64 0, .int .i64 0, .int .i64 0, .slice none 0 0, .slice none 0 0] 47 (0, 0)) := by
            rw [hW, hX]
            have := heap_alloc_new (wr.alloc (.cells #[.int .i64 x.k, .int .i64 x.i, .int .i64 x.a, .int .i64 x.b, .slice x.p.a x.p.p.length x.p.c, .slice x.fa x.fn x.fc] 45)) (.cells #[.int .i64 0, .int .i64 0, .int .i64 0, .int .i64 0, .slice none 0 0, .slice none 0 0] 47)
            simpa using this
          rw [← hW, ← hX]
          have l1 : X < W.heap.size := (Array.getElem?_eq_some_iff.1 g1).1
          have l2 : X + 1 < W.heap.size := (Array.getElem?_eq_some_iff.1 g2).1
          obtain ⟨e1, e2, e3, e4, e5, e6⟩ := g1.cells
          have f1 := cell_of_row _ _ 0 _ _ _ g2
          have f2 := cell_of_row _ _ 1 _ _ _ g2
          have f3 := cell_of_row _ _ 2 _ _ _ g2
          have f4 := cell_of_row _ _ 3 _ _ _ g2
          have f5 := cell_of_row _ _ 4 _ _ _ g2
          have f6 := cell_of_row _ _ 5 _ _ _ g2
          have hbw2 := hbw.trans (hbW.mono hbw.size)
          have hs2 := hbw2.size
          have hlk := fun (V1 : World) (N : Nat) (v : Value) (A : Ans) (h : TV V1 N v A) => alike_same v (.agg #[.int .i64 0, .int .i64 0, .int .i64 0, .int .i64 0, .slice none 0 0, .slice none 0 0]) N 0 A V1 h
          clear hW hX hbW c1 c2 c3 c4 c5 c6 g1 g2 hbw hk1 hk2 hk
          refine wp_calm ?_
          refine wp_region_held_drew (S := (fun w' => Below W.heap.size W w')) (by kernel_rfl) ?_ (fun hHeld => ?_)
          · exact (Below.refl _ _).drew
          refine take_on (i := 0) (v := ?_) rfl rfl (by kernel_rfl) (by kernel_rfl) (by kernel_rfl) (fun _ _ _ h => h) rfl ?_ hHeld ?_
          rotate_left
          · (intro wq hSq; have q1 := (hSq.cell (p := ⟨X, 0, none⟩) l1).trans e1; have q2 := (hSq.cell (p := ⟨X, 1, none⟩) l1).trans e2; have q3 := (hSq.cell (p := ⟨X, 2, none⟩) l1).trans e3; have q4 := (hSq.cell (p := ⟨X, 3, none⟩) l1).trans e4; have q5 := (hSq.cell (p := ⟨X, 4, none⟩) l1).trans e5; have q6 := (hSq.cell (p := ⟨X, 5, none⟩) l1).trans e6; have r1 := (hSq.cell (p := ⟨X + 1, 0, none⟩) l2).trans f1; have r2 := (hSq.cell (p := ⟨X + 1, 1, none⟩) l2).trans f2; have r3 := (hSq.cell (p := ⟨X + 1, 2, none⟩) l2).trans f3; have r4 := (hSq.cell (p := ⟨X + 1, 3, none⟩) l2).trans f4; have r5 := (hSq.cell (p := ⟨X + 1, 4, none⟩) l2).trans f5; have r6 := (hSq.cell (p := ⟨X + 1, 5, none⟩) l2).trans f6; go_simp <;> first | with_reducible rfl | rfl)
          simp only [Act.put, List.setIfInBounds_toArray, List.set_cons_zero, List.set_cons_succ]
          refine take_on (i := 1) (v := ?_) rfl rfl (by kernel_rfl) (by kernel_rfl) (by kernel_rfl) (fun _ _ _ h => h) rfl ?_ hHeld ?_
          rotate_left
          · (intro wq hSq; have q1 := (hSq.cell (p := ⟨X, 0, none⟩) l1).trans e1; have q2 := (hSq.cell (p := ⟨X, 1, none⟩) l1).trans e2; have q3 := (hSq.cell (p := ⟨X, 2, none⟩) l1).trans e3; have q4 := (hSq.cell (p := ⟨X, 3, none⟩) l1).trans e4; have q5 := (hSq.cell (p := ⟨X, 4, none⟩) l1).trans e5; have q6 := (hSq.cell (p := ⟨X, 5, none⟩) l1).trans e6; have r1 := (hSq.cell (p := ⟨X + 1, 0, none⟩) l2).trans f1; have r2 := (hSq.cell (p := ⟨X + 1, 1, none⟩) l2).trans f2; have r3 := (hSq.cell (p := ⟨X + 1, 2, none⟩) l2).trans f3; have r4 := (hSq.cell (p := ⟨X + 1, 3, none⟩) l2).trans f4; have r5 := (hSq.cell (p := ⟨X + 1, 4, none⟩) l2).trans f5; have r6 := (hSq.cell (p := ⟨X + 1, 5, none⟩) l2).trans f6; go_simp <;> first | with_reducible rfl | rfl)
          simp only [Act.put, List.setIfInBounds_toArray, List.set_cons_zero, List.set_cons_succ]
          refine take_on (i := 3) (v := ?_) rfl rfl (by kernel_rfl) (by kernel_rfl) (by kernel_rfl) (fun _ _ _ h => h) rfl ?_ hHeld ?_
          rotate_left
          · (intro wq hSq; have q1 := (hSq.cell (p := ⟨X, 0, none⟩) l1).trans e1; have q2 := (hSq.cell (p := ⟨X, 1, none⟩) l1).trans e2; have q3 := (hSq.cell (p := ⟨X, 2, none⟩) l1).trans e3; have q4 := (hSq.cell (p := ⟨X, 3, none⟩) l1).trans e4; have q5 := (hSq.cell (p := ⟨X, 4, none⟩) l1).trans e5; have q6 := (hSq.cell (p := ⟨X, 5, none⟩) l1).trans e6; have r1 := (hSq.cell (p := ⟨X + 1, 0, none⟩) l2).trans f1; have r2 := (hSq.cell (p := ⟨X + 1, 1, none⟩) l2).trans f2; have r3 := (hSq.cell (p := ⟨X + 1, 2, none⟩) l2).trans f3; have r4 := (hSq.cell (p := ⟨X + 1, 3, none⟩) l2).trans f4; have r5 := (hSq.cell (p := ⟨X + 1, 4, none⟩) l2).trans f5; have r6 := (hSq.cell (p := ⟨X + 1, 5, none⟩) l2).trans f6; go_simp <;> first | with_reducible rfl | rfl)
          simp only [Act.put, List.setIfInBounds_toArray, List.set_cons_zero, List.set_cons_succ]
          refine take_one (i := 2) rfl (by kernel_rfl) (fun K hK => ?_)
          go_simp
          refine (hcl _).mono ?_; rintro e y1 ⟨⟨v, rfl, hv⟩, hb1⟩; have hy1 := hHeld.trans (hb1.mono hHeld.size)
          try go_wp2_with fail
          refine hK.out _ _ ?_ (fun hHeld => ?_)
          · exact hy1
          clear hK K
          try simp only [Act.put, List.setIfInBounds_toArray, List.set_cons_zero, List.set_cons_succ]
          refine take_one (i := 4) rfl (by kernel_rfl) (fun K hK => ?_)
          go_simp
          refine (hlk _ _ v _ hv (tv0 _ _ _ _ _ _)).mono ?_; rintro e y2 ⟨rfl, hb2⟩; have hy2 := hHeld.trans (hb2.mono hHeld.size)
          try go_wp2_with fail
          refine hK.out _ _ ?_ (fun hHeld => ?_)
          · exact hy2
          clear hK K
          try simp only [Act.put, List.setIfInBounds_toArray, List.set_cons_zero, List.set_cons_succ]
          refine take_on (i := 5) (v := ?_) rfl rfl (by kernel_rfl) (by kernel_rfl) (by kernel_rfl) (fun _ _ _ h => h) rfl ?_ hHeld ?_
          rotate_left
          · (intro wq hSq; have q1 := (hSq.cell (p := ⟨X, 0, none⟩) l1).trans e1; have q2 := (hSq.cell (p := ⟨X, 1, none⟩) l1).trans e2; have q3 := (hSq.cell (p := ⟨X, 2, none⟩) l1).trans e3; have q4 := (hSq.cell (p := ⟨X, 3, none⟩) l1).trans e4; have q5 := (hSq.cell (p := ⟨X, 4, none⟩) l1).trans e5; have q6 := (hSq.cell (p := ⟨X, 5, none⟩) l1).trans e6; have r1 := (hSq.cell (p := ⟨X + 1, 0, none⟩) l2).trans f1; have r2 := (hSq.cell (p := ⟨X + 1, 1, none⟩) l2).trans f2; have r3 := (hSq.cell (p := ⟨X + 1, 2, none⟩) l2).trans f3; have r4 := (hSq.cell (p := ⟨X + 1, 3, none⟩) l2).trans f4; have r5 := (hSq.cell (p := ⟨X + 1, 4, none⟩) l2).trans f5; have r6 := (hSq.cell (p := ⟨X + 1, 5, none⟩) l2).trans f6; go_simp <;> first | with_reducible rfl | rfl)
          simp only [Act.put, List.setIfInBounds_toArray, List.set_cons_zero, List.set_cons_succ]
          refine wpAnyH_done (by kernel_rfl) ?_ _
          have hfin := hbw2.trans (hHeld.mono hs2)
          clear hcl hlk e1 e2 e3 e4 e5 e6 f1 f2 f3 f4 f5 f6 hv hb1 hb2 hy1 hy2 hHeld
          go_wp2_with fail
          go_roundw
          case rel => exact ⟨j + 1, by omega, by go_num, hfin⟩
          case measure => simp [intOf]; omega
    · have hfx := fixed_any wr
      clear hs
      go_wp2_with fail
      refine hfx.mono ?_
      rintro e w2 ⟨rfl, hb2⟩
      have hfin := hbw.trans (hb2.mono hbw.size)
      clear hfx
      go_wp2_with fail
      go_ret
      exact ⟨rfl, hfin⟩
end diskNone

end Go.Proofs.Ytjmfmbeijbbdoaa
