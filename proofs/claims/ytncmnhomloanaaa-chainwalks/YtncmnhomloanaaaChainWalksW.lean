/- The law on walks, walked. -/
import Derived.Test.YtncmnhomloanaaaHq1
namespace Go.Proofs.Ytncmnhomloanaaa.chainWalks
open Go.RowKit

/-- Where the link that counts stands in a walk: so many are above it. -/
theorem rev_pos {xs : List Lk} (hg : Good xs) (s : Int) {k : Nat} (hk : k < xs.length) : ((lk xs.reverse k).n ≤ s ↔ xs.length - upN xs s ≤ k) ∧ (xs.length - upN xs s = k → 0 < upN xs s ∧ lk xs.reverse k = lastK xs (upN xs s)) := by
  obtain ⟨h1, h2⟩ := hg.up s
  have hle := upN_le xs s
  rw [lk_rev hk]
  refine ⟨⟨fun h => ?_, fun h => h1 _ (by omega)⟩, fun e => ⟨by omega, ?_⟩⟩
  · refine Classical.byContradiction fun hno => ?_
    have := h2 (xs.length - 1 - k) (by omega) (by omega)
    omega
  · unfold lastK
    rw [if_neg (by omega)]
    congr 1; omega
theorem rev_fall {xs : List Lk} (hg : Good xs) {k : Nat} (hk : k + 1 < xs.length) : (lk xs.reverse (k + 1)).n < (lk xs.reverse k).n := by
  rw [lk_rev hk, lk_rev (by omega)]
  exact hg.rise _ _ (by omega) (by omega)

set_option maxRecDepth 100000 in
set_option maxHeartbeats 8000000 in
theorem walk (a : Option Addr) (n c : Nat) (A : Nat → Stc) (s : Int) (_ : -9223372036854775808 ≤ s ∧ s ≤ 9223372036854775807) (w : World) (ha : CameStc w a n A) :
    Calls Try.prog 8 #[.slice a n c, .int .i64 s] w fun e w' => e = .returned (.bool true) ∧ Below w.heap.size w w' := by
  have hn := ha.size
  have hp1 := played_any a n c A w ha
  have hxl := runL_len A n
  clear ha
  go_enter Try.func8, Try.ntmps8
  go_wp2_with fail
  refine hp1.mono ?_
  rintro e w1 ⟨⟨p, v, rfl, h1, _⟩, b1⟩
  have hwk := walk_any h1 (by omega) (-1) (by omega)
  have hgood := h1.good
  obtain ⟨X, hX⟩ : ∃ X, X = runL A n := ⟨_, rfl⟩
  rw [← hX] at hwk h1 hgood hxl
  rw [show walkL X (-1) = X.reverse by unfold walkL; simp] at hwk
  rw [List.length_reverse] at hwk
  clear hp1 hX
  go_wp2_with fail
  refine hwk.mono ?_
  rintro e w2 ⟨⟨v2, rfl, o2⟩, b2⟩
  have o2' : OwnS w2 w1.heap.size 38 3 v2 X.reverse.length (celL X.reverse) := by rw [List.length_reverse]; exact o2
  obtain ⟨a2, c2, ev, hr2, hc2, _, _, _⟩ := own_row o2'
  rw [List.length_reverse] at ev hc2
  subst ev
  have h2 := h1.below b2
  have haw := awake_any w2
  have hb2 := b1.trans (b2.mono b1.size)
  clear hwk o2 o2' b1 b2 h1
  go_wp2_with fail
  refine haw.mono ?_
  rintro e w3 ⟨rfl, b3⟩
  have h3 := h2.below b3
  have hr3 := hr2.below b3
  have hlen := len_any h3
  have hat := at_any h3 (by omega) s
  have hb3 := hb2.trans (b3.mono hb2.size)
  obtain ⟨U, hU⟩ : ∃ U, U = upN X s := ⟨_, rfl⟩
  have hUl : U ≤ X.length := by rw [hU]; exact upN_le X s
  have HP : Hid (∀ k, k < X.length → ((lk X.reverse k).n ≤ s ↔ X.length - U ≤ k) ∧ (X.length - U = k → 0 < U ∧ lk X.reverse k = lastK X U)) := hide_it fun k hk => by rw [hU]; exact rev_pos hgood s hk
  have HF : Hid (∀ k, k + 1 < X.length → (lk X.reverse (k + 1)).n < (lk X.reverse k).n) := hide_it fun k hk => rev_fall hgood hk
  rw [← hU] at hat
  obtain ⟨N, hN⟩ : ∃ N, N = X.length := ⟨_, rfl⟩
  rw [← hN] at hlen hxl hUl HP HF hc2 ⊢
  have HN := hide_it hN
  have hnn : ((N : Int) != (N : Int)) = false := by simp
  clear haw h2 hr2 b3 hb2 hgood hU hN h3
  go_wp2_with fail
  refine hlen.mono ?_
  rintro e w4 ⟨rfl, e4⟩
  obtain rfl := e4.symm
  obtain ⟨Z, hZ⟩ : ∃ Z, Z = lastK X U := ⟨_, rfl⟩
  rw [← hZ] at HP hat
  obtain ⟨bb, hbb⟩ : ∃ bb, bb = decide (0 < U) := ⟨_, rfl⟩
  rw [← hbb] at hat
  have HBB := hide_it hbb
  unfold tellL lkV at hat
  clear hlen e4 hZ hbb
  go_wp2_with fail
  refine hat.mono ?_
  rintro e w5 ⟨rfl, b5⟩
  obtain ⟨W5, hW5⟩ : ∃ W, W = w5.alloc (.cells #[.int .i64 Z.n, .string Z.v, .bool Z.d] 38) := ⟨_, rfl⟩
  obtain ⟨B, hB⟩ : ∃ B, B = w5.heap.size := ⟨_, rfl⟩
  have k5 : W5.heap[B]? = some (.cells #[.int .i64 Z.n, .string Z.v, .bool Z.d] 38 (0, 0)) := by rw [hW5, hB]; exact heap_alloc_new w5 _
  have y5 : Below w3.heap.size w3 W5 := by rw [hW5]; exact b5.trans (((Below.refl _ _).alloc (Nat.le_refl _) _).mono b5.size)
  have lB := (Array.getElem?_eq_some_iff.1 k5).1
  have HR := hide_it (hr3.below y5)
  have HB5 := hide_it (hb3.trans (y5.mono hb3.size))
  clear hat hr3 b5 y5 hb3
  go_wp2_with fail
  rw [← hW5, ← hB]
  clear hW5 hB
  go_loopw [9, 10] (fun f i wr => ∃ k : Nat, k ≤ N ∧ i = .int .i64 (k : Int) ∧ f = .bool (decide (N - U < k)) ∧ Hid (Below W5.heap.size W5 wr)) (fun _ i _ => N - (intOf i).toNat)
  case atStart => exact ⟨0, by omega, rfl, by simp, hide_it (Below.refl _ _)⟩
  case round =>
    obtain ⟨k, hk, rfl, rfl, HW⟩ := hrel
    by_cases hlt : k < N
    · have hki : (k : Int) < (N : Int) := by omega
      have hw1 : IntKind.i64.wrap ((k : Int) + 1) = (k : Int) + 1 := i64_in (by omega) (by omega)
      have hkx : k < X.reverse.length := by rw [List.length_reverse]; have := HN.out; omega
      obtain ⟨b, o, rfl, lb, d0, d1, d2⟩ := (HR.out.below HW.out).here hkx
      have kB := (HW.out.block B lB).trans k5
      have q0 : wr.cell? ⟨B, 0, none⟩ = some (.int .i64 Z.n) := cell_of_row _ _ _ _ _ _ kB
      have q1 : wr.cell? ⟨B, 1, none⟩ = some (.string Z.v) := cell_of_row _ _ _ _ _ _ kB
      have q2 : wr.cell? ⟨B, 2, none⟩ = some (.bool Z.d) := cell_of_row _ _ _ _ _ _ kB
      have hp := HP.out k hlt
      by_cases hk0 : k = 0
      · subst hk0
        simp only [Nat.zero_mul, Nat.add_zero] at d0 d1 d2
        rw [show ((0 : Nat) : Int) = 0 from rfl] at *
        have hA : ¬ N - U < 0 := by omega
        by_cases hBq : N - U = 0
        · skip
          have hf : decide (N - U < 0) = false := decide_eq_false hA
          have hf2 : decide (N - U < 0 + 1) = true := decide_eq_true (by omega)
          obtain ⟨hu0, hzz⟩ := hp.2 hBq
          have hle := hp.1.2 (by omega)
          rw [hzz] at d0 d1 d2 hle
          have hb1 : bb = true := by rw [HBB.out]; exact decide_eq_true hu0
          subst hb1
          have e0 : decide (Z.n ≤ s) = true := decide_eq_true hle
          have e1 : (Z.n == Z.n) = true := by simp
          have e2 : (Z.v.toList == Z.v.toList) = true := by simp
          have e3 : (Z.d == Z.d) = true := by simp
          rw [hf]
          have HF2 := hide_it hf2
          have HW2 := HW
          clear hf hf2 hp hA hBq hzz hle
          go_wp2_with fail
          refine wp_region_held_drew (S := (fun w' => w'.heap[b]? = wr.heap[b]? ∧ w'.heap[B]? = wr.heap[B]?)) (by kernel_rfl) ?_ (fun hHeld => ?_)
          · exact ⟨rfl, rfl⟩
          refine take_on (i := 0) (v := ?_) rfl rfl (by kernel_rfl) (by kernel_rfl) (by kernel_rfl) (fun _ _ _ h => h) rfl ?_ hHeld ?_
          rotate_left
          · (intro wq hSq; have s0 := (World.cell?_of_block (w := wr) (a := ⟨b, o, none⟩) hSq.1).trans d0; have s1 := (World.cell?_of_block (w := wr) (a := ⟨b, o + 1, none⟩) hSq.1).trans d1; have s2 := (World.cell?_of_block (w := wr) (a := ⟨b, o + 2, none⟩) hSq.1).trans d2; have r0 := (World.cell?_of_block (w := wr) (a := ⟨B, 0, none⟩) hSq.2).trans q0; have r1 := (World.cell?_of_block (w := wr) (a := ⟨B, 1, none⟩) hSq.2).trans q1; have r2 := (World.cell?_of_block (w := wr) (a := ⟨B, 2, none⟩) hSq.2).trans q2; go_simp <;> first | with_reducible rfl | rfl)
          simp only [Act.put, List.setIfInBounds_toArray, List.set_cons_zero, List.set_cons_succ]
          refine take_on (i := 1) (v := ?_) rfl rfl (by kernel_rfl) (by kernel_rfl) (by kernel_rfl) (fun _ _ _ h => h) rfl ?_ hHeld ?_
          rotate_left
          · (intro wq hSq; have s0 := (World.cell?_of_block (w := wr) (a := ⟨b, o, none⟩) hSq.1).trans d0; have s1 := (World.cell?_of_block (w := wr) (a := ⟨b, o + 1, none⟩) hSq.1).trans d1; have s2 := (World.cell?_of_block (w := wr) (a := ⟨b, o + 2, none⟩) hSq.1).trans d2; have r0 := (World.cell?_of_block (w := wr) (a := ⟨B, 0, none⟩) hSq.2).trans q0; have r1 := (World.cell?_of_block (w := wr) (a := ⟨B, 1, none⟩) hSq.2).trans q1; have r2 := (World.cell?_of_block (w := wr) (a := ⟨B, 2, none⟩) hSq.2).trans q2; go_simp <;> first | with_reducible rfl | rfl)
          simp only [Act.put, List.setIfInBounds_toArray, List.set_cons_zero, List.set_cons_succ]
          refine take_on (i := 2) (v := ?_) rfl rfl (by kernel_rfl) (by kernel_rfl) (by kernel_rfl) (fun _ _ _ h => h) rfl ?_ hHeld ?_
          rotate_left
          · (intro wq hSq; have s0 := (World.cell?_of_block (w := wr) (a := ⟨b, o, none⟩) hSq.1).trans d0; have s1 := (World.cell?_of_block (w := wr) (a := ⟨b, o + 1, none⟩) hSq.1).trans d1; have s2 := (World.cell?_of_block (w := wr) (a := ⟨b, o + 2, none⟩) hSq.1).trans d2; have r0 := (World.cell?_of_block (w := wr) (a := ⟨B, 0, none⟩) hSq.2).trans q0; have r1 := (World.cell?_of_block (w := wr) (a := ⟨B, 1, none⟩) hSq.2).trans q1; have r2 := (World.cell?_of_block (w := wr) (a := ⟨B, 2, none⟩) hSq.2).trans q2; go_simp <;> first | with_reducible rfl | rfl)
          simp only [Act.put, List.setIfInBounds_toArray, List.set_cons_zero, List.set_cons_succ]
          refine take_off (i := 3) rfl rfl (by kernel_rfl) (by kernel_rfl) (by kernel_rfl) (fun _ _ _ h => h) rfl hHeld ?_
          simp only [Act.put, List.setIfInBounds_toArray, List.set_cons_zero, List.set_cons_succ]
          refine take_off (i := 4) rfl rfl (by kernel_rfl) (by kernel_rfl) (by kernel_rfl) (fun _ _ _ h => h) rfl hHeld ?_
          simp only [Act.put, List.setIfInBounds_toArray, List.set_cons_zero, List.set_cons_succ]
          refine take_off (i := 5) rfl rfl (by kernel_rfl) (by kernel_rfl) (by kernel_rfl) (fun _ _ _ h => h) rfl hHeld ?_
          simp only [Act.put, List.setIfInBounds_toArray, List.set_cons_zero, List.set_cons_succ]
          refine take_off (i := 6) rfl rfl (by kernel_rfl) (by kernel_rfl) (by kernel_rfl) (fun _ _ _ h => h) rfl hHeld ?_
          simp only [Act.put, List.setIfInBounds_toArray, List.set_cons_zero, List.set_cons_succ]
          refine take_off (i := 7) rfl rfl (by kernel_rfl) (by kernel_rfl) (by kernel_rfl) (fun _ _ _ h => h) rfl hHeld ?_
          simp only [Act.put, List.setIfInBounds_toArray, List.set_cons_zero, List.set_cons_succ]
          refine take_off (i := 8) rfl rfl (by kernel_rfl) (by kernel_rfl) (by kernel_rfl) (fun _ _ _ h => h) rfl hHeld ?_
          simp only [Act.put, List.setIfInBounds_toArray, List.set_cons_zero, List.set_cons_succ]
          refine take_off (i := 9) rfl rfl (by kernel_rfl) (by kernel_rfl) (by kernel_rfl) (fun _ _ _ h => h) rfl hHeld ?_
          simp only [Act.put, List.setIfInBounds_toArray, List.set_cons_zero, List.set_cons_succ]
          refine take_off (i := 10) rfl rfl (by kernel_rfl) (by kernel_rfl) (by kernel_rfl) (fun _ _ _ h => h) rfl hHeld ?_
          simp only [Act.put, List.setIfInBounds_toArray, List.set_cons_zero, List.set_cons_succ]
          refine take_off (i := 11) rfl rfl (by kernel_rfl) (by kernel_rfl) (by kernel_rfl) (fun _ _ _ h => h) rfl hHeld ?_
          simp only [Act.put, List.setIfInBounds_toArray, List.set_cons_zero, List.set_cons_succ]
          refine take_off (i := 12) rfl rfl (by kernel_rfl) (by kernel_rfl) (by kernel_rfl) (fun _ _ _ h => h) rfl hHeld ?_
          simp only [Act.put, List.setIfInBounds_toArray, List.set_cons_zero, List.set_cons_succ]
          refine take_off (i := 13) rfl rfl (by kernel_rfl) (by kernel_rfl) (by kernel_rfl) (fun _ _ _ h => h) rfl hHeld ?_
          simp only [Act.put, List.setIfInBounds_toArray, List.set_cons_zero, List.set_cons_succ]
          refine take_off (i := 14) rfl rfl (by kernel_rfl) (by kernel_rfl) (by kernel_rfl) (fun _ _ _ h => h) rfl hHeld ?_
          simp only [Act.put, List.setIfInBounds_toArray, List.set_cons_zero, List.set_cons_succ]
          refine take_on (i := 15) (v := ?_) rfl rfl (by kernel_rfl) (by kernel_rfl) (by kernel_rfl) (fun _ _ _ h => h) rfl ?_ hHeld ?_
          rotate_left
          · (intro wq hSq; have s0 := (World.cell?_of_block (w := wr) (a := ⟨b, o, none⟩) hSq.1).trans d0; have s1 := (World.cell?_of_block (w := wr) (a := ⟨b, o + 1, none⟩) hSq.1).trans d1; have s2 := (World.cell?_of_block (w := wr) (a := ⟨b, o + 2, none⟩) hSq.1).trans d2; have r0 := (World.cell?_of_block (w := wr) (a := ⟨B, 0, none⟩) hSq.2).trans q0; have r1 := (World.cell?_of_block (w := wr) (a := ⟨B, 1, none⟩) hSq.2).trans q1; have r2 := (World.cell?_of_block (w := wr) (a := ⟨B, 2, none⟩) hSq.2).trans q2; go_simp <;> first | with_reducible rfl | rfl)
          simp only [Act.put, List.setIfInBounds_toArray, List.set_cons_zero, List.set_cons_succ]
          refine wpAnyH_done (by kernel_rfl) ?_ _
          go_wp2_with fail
          refine wp_region_held_drew (S := (fun w' => w'.heap[b]? = wr.heap[b]? ∧ w'.heap[B]? = wr.heap[B]?)) (by kernel_rfl) ?_ (fun hHeld => ?_)
          · exact ⟨rfl, rfl⟩
          refine take_on (i := 0) (v := ?_) rfl rfl (by kernel_rfl) (by kernel_rfl) (by kernel_rfl) (fun _ _ _ h => h) rfl ?_ hHeld ?_
          rotate_left
          · (intro wq hSq; have s0 := (World.cell?_of_block (w := wr) (a := ⟨b, o, none⟩) hSq.1).trans d0; have s1 := (World.cell?_of_block (w := wr) (a := ⟨b, o + 1, none⟩) hSq.1).trans d1; have s2 := (World.cell?_of_block (w := wr) (a := ⟨b, o + 2, none⟩) hSq.1).trans d2; have r0 := (World.cell?_of_block (w := wr) (a := ⟨B, 0, none⟩) hSq.2).trans q0; have r1 := (World.cell?_of_block (w := wr) (a := ⟨B, 1, none⟩) hSq.2).trans q1; have r2 := (World.cell?_of_block (w := wr) (a := ⟨B, 2, none⟩) hSq.2).trans q2; go_simp <;> first | with_reducible rfl | rfl)
          simp only [Act.put, List.setIfInBounds_toArray, List.set_cons_zero, List.set_cons_succ]
          refine take_on (i := 1) (v := ?_) rfl rfl (by kernel_rfl) (by kernel_rfl) (by kernel_rfl) (fun _ _ _ h => h) rfl ?_ hHeld ?_
          rotate_left
          · (intro wq hSq; have s0 := (World.cell?_of_block (w := wr) (a := ⟨b, o, none⟩) hSq.1).trans d0; have s1 := (World.cell?_of_block (w := wr) (a := ⟨b, o + 1, none⟩) hSq.1).trans d1; have s2 := (World.cell?_of_block (w := wr) (a := ⟨b, o + 2, none⟩) hSq.1).trans d2; have r0 := (World.cell?_of_block (w := wr) (a := ⟨B, 0, none⟩) hSq.2).trans q0; have r1 := (World.cell?_of_block (w := wr) (a := ⟨B, 1, none⟩) hSq.2).trans q1; have r2 := (World.cell?_of_block (w := wr) (a := ⟨B, 2, none⟩) hSq.2).trans q2; go_simp <;> first | with_reducible rfl | rfl)
          simp only [Act.put, List.setIfInBounds_toArray, List.set_cons_zero, List.set_cons_succ]
          refine take_on (i := 2) (v := ?_) rfl rfl (by kernel_rfl) (by kernel_rfl) (by kernel_rfl) (fun _ _ _ h => h) rfl ?_ hHeld ?_
          rotate_left
          · (intro wq hSq; have s0 := (World.cell?_of_block (w := wr) (a := ⟨b, o, none⟩) hSq.1).trans d0; have s1 := (World.cell?_of_block (w := wr) (a := ⟨b, o + 1, none⟩) hSq.1).trans d1; have s2 := (World.cell?_of_block (w := wr) (a := ⟨b, o + 2, none⟩) hSq.1).trans d2; have r0 := (World.cell?_of_block (w := wr) (a := ⟨B, 0, none⟩) hSq.2).trans q0; have r1 := (World.cell?_of_block (w := wr) (a := ⟨B, 1, none⟩) hSq.2).trans q1; have r2 := (World.cell?_of_block (w := wr) (a := ⟨B, 2, none⟩) hSq.2).trans q2; go_simp <;> first | with_reducible rfl | rfl)
          simp only [Act.put, List.setIfInBounds_toArray, List.set_cons_zero, List.set_cons_succ]
          refine take_on (i := 3) (v := ?_) rfl rfl (by kernel_rfl) (by kernel_rfl) (by kernel_rfl) (fun _ _ _ h => h) rfl ?_ hHeld ?_
          rotate_left
          · (intro wq hSq; have s0 := (World.cell?_of_block (w := wr) (a := ⟨b, o, none⟩) hSq.1).trans d0; have s1 := (World.cell?_of_block (w := wr) (a := ⟨b, o + 1, none⟩) hSq.1).trans d1; have s2 := (World.cell?_of_block (w := wr) (a := ⟨b, o + 2, none⟩) hSq.1).trans d2; have r0 := (World.cell?_of_block (w := wr) (a := ⟨B, 0, none⟩) hSq.2).trans q0; have r1 := (World.cell?_of_block (w := wr) (a := ⟨B, 1, none⟩) hSq.2).trans q1; have r2 := (World.cell?_of_block (w := wr) (a := ⟨B, 2, none⟩) hSq.2).trans q2; go_simp <;> first | with_reducible rfl | rfl)
          simp only [Act.put, List.setIfInBounds_toArray, List.set_cons_zero, List.set_cons_succ]
          refine take_on (i := 4) (v := ?_) rfl rfl (by kernel_rfl) (by kernel_rfl) (by kernel_rfl) (fun _ _ _ h => h) rfl ?_ hHeld ?_
          rotate_left
          · (intro wq hSq; have s0 := (World.cell?_of_block (w := wr) (a := ⟨b, o, none⟩) hSq.1).trans d0; have s1 := (World.cell?_of_block (w := wr) (a := ⟨b, o + 1, none⟩) hSq.1).trans d1; have s2 := (World.cell?_of_block (w := wr) (a := ⟨b, o + 2, none⟩) hSq.1).trans d2; have r0 := (World.cell?_of_block (w := wr) (a := ⟨B, 0, none⟩) hSq.2).trans q0; have r1 := (World.cell?_of_block (w := wr) (a := ⟨B, 1, none⟩) hSq.2).trans q1; have r2 := (World.cell?_of_block (w := wr) (a := ⟨B, 2, none⟩) hSq.2).trans q2; go_simp <;> first | with_reducible rfl | rfl)
          simp only [Act.put, List.setIfInBounds_toArray, List.set_cons_zero, List.set_cons_succ]
          refine take_on (i := 5) (v := ?_) rfl rfl (by kernel_rfl) (by kernel_rfl) (by kernel_rfl) (fun _ _ _ h => h) rfl ?_ hHeld ?_
          rotate_left
          · (intro wq hSq; have s0 := (World.cell?_of_block (w := wr) (a := ⟨b, o, none⟩) hSq.1).trans d0; have s1 := (World.cell?_of_block (w := wr) (a := ⟨b, o + 1, none⟩) hSq.1).trans d1; have s2 := (World.cell?_of_block (w := wr) (a := ⟨b, o + 2, none⟩) hSq.1).trans d2; have r0 := (World.cell?_of_block (w := wr) (a := ⟨B, 0, none⟩) hSq.2).trans q0; have r1 := (World.cell?_of_block (w := wr) (a := ⟨B, 1, none⟩) hSq.2).trans q1; have r2 := (World.cell?_of_block (w := wr) (a := ⟨B, 2, none⟩) hSq.2).trans q2; go_simp <;> first | with_reducible rfl | rfl)
          simp only [Act.put, List.setIfInBounds_toArray, List.set_cons_zero, List.set_cons_succ]
          refine take_on (i := 6) (v := ?_) rfl rfl (by kernel_rfl) (by kernel_rfl) (by kernel_rfl) (fun _ _ _ h => h) rfl ?_ hHeld ?_
          rotate_left
          · (intro wq hSq; have s0 := (World.cell?_of_block (w := wr) (a := ⟨b, o, none⟩) hSq.1).trans d0; have s1 := (World.cell?_of_block (w := wr) (a := ⟨b, o + 1, none⟩) hSq.1).trans d1; have s2 := (World.cell?_of_block (w := wr) (a := ⟨b, o + 2, none⟩) hSq.1).trans d2; have r0 := (World.cell?_of_block (w := wr) (a := ⟨B, 0, none⟩) hSq.2).trans q0; have r1 := (World.cell?_of_block (w := wr) (a := ⟨B, 1, none⟩) hSq.2).trans q1; have r2 := (World.cell?_of_block (w := wr) (a := ⟨B, 2, none⟩) hSq.2).trans q2; go_simp <;> first | with_reducible rfl | rfl)
          simp only [Act.put, List.setIfInBounds_toArray, List.set_cons_zero, List.set_cons_succ]
          refine take_on (i := 7) (v := ?_) rfl rfl (by kernel_rfl) (by kernel_rfl) (by kernel_rfl) (fun _ _ _ h => h) rfl ?_ hHeld ?_
          rotate_left
          · (intro wq hSq; have s0 := (World.cell?_of_block (w := wr) (a := ⟨b, o, none⟩) hSq.1).trans d0; have s1 := (World.cell?_of_block (w := wr) (a := ⟨b, o + 1, none⟩) hSq.1).trans d1; have s2 := (World.cell?_of_block (w := wr) (a := ⟨b, o + 2, none⟩) hSq.1).trans d2; have r0 := (World.cell?_of_block (w := wr) (a := ⟨B, 0, none⟩) hSq.2).trans q0; have r1 := (World.cell?_of_block (w := wr) (a := ⟨B, 1, none⟩) hSq.2).trans q1; have r2 := (World.cell?_of_block (w := wr) (a := ⟨B, 2, none⟩) hSq.2).trans q2; go_simp <;> first | with_reducible rfl | rfl)
          simp only [Act.put, List.setIfInBounds_toArray, List.set_cons_zero, List.set_cons_succ]
          refine take_on (i := 8) (v := ?_) rfl rfl (by kernel_rfl) (by kernel_rfl) (by kernel_rfl) (fun _ _ _ h => h) rfl ?_ hHeld ?_
          rotate_left
          · (intro wq hSq; have s0 := (World.cell?_of_block (w := wr) (a := ⟨b, o, none⟩) hSq.1).trans d0; have s1 := (World.cell?_of_block (w := wr) (a := ⟨b, o + 1, none⟩) hSq.1).trans d1; have s2 := (World.cell?_of_block (w := wr) (a := ⟨b, o + 2, none⟩) hSq.1).trans d2; have r0 := (World.cell?_of_block (w := wr) (a := ⟨B, 0, none⟩) hSq.2).trans q0; have r1 := (World.cell?_of_block (w := wr) (a := ⟨B, 1, none⟩) hSq.2).trans q1; have r2 := (World.cell?_of_block (w := wr) (a := ⟨B, 2, none⟩) hSq.2).trans q2; go_simp <;> first | with_reducible rfl | rfl)
          simp only [Act.put, List.setIfInBounds_toArray, List.set_cons_zero, List.set_cons_succ]
          refine take_on (i := 9) (v := ?_) rfl rfl (by kernel_rfl) (by kernel_rfl) (by kernel_rfl) (fun _ _ _ h => h) rfl ?_ hHeld ?_
          rotate_left
          · (intro wq hSq; have s0 := (World.cell?_of_block (w := wr) (a := ⟨b, o, none⟩) hSq.1).trans d0; have s1 := (World.cell?_of_block (w := wr) (a := ⟨b, o + 1, none⟩) hSq.1).trans d1; have s2 := (World.cell?_of_block (w := wr) (a := ⟨b, o + 2, none⟩) hSq.1).trans d2; have r0 := (World.cell?_of_block (w := wr) (a := ⟨B, 0, none⟩) hSq.2).trans q0; have r1 := (World.cell?_of_block (w := wr) (a := ⟨B, 1, none⟩) hSq.2).trans q1; have r2 := (World.cell?_of_block (w := wr) (a := ⟨B, 2, none⟩) hSq.2).trans q2; go_simp <;> first | with_reducible rfl | rfl)
          simp only [Act.put, List.setIfInBounds_toArray, List.set_cons_zero, List.set_cons_succ]
          refine wpAnyH_done (by kernel_rfl) ?_ _
          go_wp2
          go_roundw
          case rel => exact ⟨0 + 1, by omega, by first | go_num | rfl, by rw [HF2.out], hide_it ((HW.out.drew).drew)⟩
          case measure => simp [intOf]; omega
        · skip
          have hf : decide (N - U < 0) = false := decide_eq_false hA
          have hf2 : decide (N - U < 0 + 1) = false := decide_eq_false (by omega)
          have e0 : decide ((lk X.reverse (0)).n ≤ s) = false := decide_eq_false (fun h9 => by have := hp.1.1 h9; omega)
          generalize lk X.reverse (0) = zk at *
          rw [hf]
          have HF2 := hide_it hf2
          have HW2 := HW
          clear hf hf2 hp hA
          go_wp2_with fail
          refine wp_region_held_drew (S := (fun w' => w'.heap[b]? = wr.heap[b]? ∧ w'.heap[B]? = wr.heap[B]?)) (by kernel_rfl) ?_ (fun hHeld => ?_)
          · exact ⟨rfl, rfl⟩
          refine take_on (i := 0) (v := ?_) rfl rfl (by kernel_rfl) (by kernel_rfl) (by kernel_rfl) (fun _ _ _ h => h) rfl ?_ hHeld ?_
          rotate_left
          · (intro wq hSq; have s0 := (World.cell?_of_block (w := wr) (a := ⟨b, o, none⟩) hSq.1).trans d0; have s1 := (World.cell?_of_block (w := wr) (a := ⟨b, o + 1, none⟩) hSq.1).trans d1; have s2 := (World.cell?_of_block (w := wr) (a := ⟨b, o + 2, none⟩) hSq.1).trans d2; have r0 := (World.cell?_of_block (w := wr) (a := ⟨B, 0, none⟩) hSq.2).trans q0; have r1 := (World.cell?_of_block (w := wr) (a := ⟨B, 1, none⟩) hSq.2).trans q1; have r2 := (World.cell?_of_block (w := wr) (a := ⟨B, 2, none⟩) hSq.2).trans q2; go_simp <;> first | with_reducible rfl | rfl)
          simp only [Act.put, List.setIfInBounds_toArray, List.set_cons_zero, List.set_cons_succ]
          refine take_on (i := 1) (v := ?_) rfl rfl (by kernel_rfl) (by kernel_rfl) (by kernel_rfl) (fun _ _ _ h => h) rfl ?_ hHeld ?_
          rotate_left
          · (intro wq hSq; have s0 := (World.cell?_of_block (w := wr) (a := ⟨b, o, none⟩) hSq.1).trans d0; have s1 := (World.cell?_of_block (w := wr) (a := ⟨b, o + 1, none⟩) hSq.1).trans d1; have s2 := (World.cell?_of_block (w := wr) (a := ⟨b, o + 2, none⟩) hSq.1).trans d2; have r0 := (World.cell?_of_block (w := wr) (a := ⟨B, 0, none⟩) hSq.2).trans q0; have r1 := (World.cell?_of_block (w := wr) (a := ⟨B, 1, none⟩) hSq.2).trans q1; have r2 := (World.cell?_of_block (w := wr) (a := ⟨B, 2, none⟩) hSq.2).trans q2; go_simp <;> first | with_reducible rfl | rfl)
          simp only [Act.put, List.setIfInBounds_toArray, List.set_cons_zero, List.set_cons_succ]
          refine take_on (i := 2) (v := ?_) rfl rfl (by kernel_rfl) (by kernel_rfl) (by kernel_rfl) (fun _ _ _ h => h) rfl ?_ hHeld ?_
          rotate_left
          · (intro wq hSq; have s0 := (World.cell?_of_block (w := wr) (a := ⟨b, o, none⟩) hSq.1).trans d0; have s1 := (World.cell?_of_block (w := wr) (a := ⟨b, o + 1, none⟩) hSq.1).trans d1; have s2 := (World.cell?_of_block (w := wr) (a := ⟨b, o + 2, none⟩) hSq.1).trans d2; have r0 := (World.cell?_of_block (w := wr) (a := ⟨B, 0, none⟩) hSq.2).trans q0; have r1 := (World.cell?_of_block (w := wr) (a := ⟨B, 1, none⟩) hSq.2).trans q1; have r2 := (World.cell?_of_block (w := wr) (a := ⟨B, 2, none⟩) hSq.2).trans q2; go_simp <;> first | with_reducible rfl | rfl)
          simp only [Act.put, List.setIfInBounds_toArray, List.set_cons_zero, List.set_cons_succ]
          refine take_off (i := 3) rfl rfl (by kernel_rfl) (by kernel_rfl) (by kernel_rfl) (fun _ _ _ h => h) rfl hHeld ?_
          simp only [Act.put, List.setIfInBounds_toArray, List.set_cons_zero, List.set_cons_succ]
          refine take_off (i := 4) rfl rfl (by kernel_rfl) (by kernel_rfl) (by kernel_rfl) (fun _ _ _ h => h) rfl hHeld ?_
          simp only [Act.put, List.setIfInBounds_toArray, List.set_cons_zero, List.set_cons_succ]
          refine take_off (i := 5) rfl rfl (by kernel_rfl) (by kernel_rfl) (by kernel_rfl) (fun _ _ _ h => h) rfl hHeld ?_
          simp only [Act.put, List.setIfInBounds_toArray, List.set_cons_zero, List.set_cons_succ]
          refine take_off (i := 6) rfl rfl (by kernel_rfl) (by kernel_rfl) (by kernel_rfl) (fun _ _ _ h => h) rfl hHeld ?_
          simp only [Act.put, List.setIfInBounds_toArray, List.set_cons_zero, List.set_cons_succ]
          refine take_off (i := 7) rfl rfl (by kernel_rfl) (by kernel_rfl) (by kernel_rfl) (fun _ _ _ h => h) rfl hHeld ?_
          simp only [Act.put, List.setIfInBounds_toArray, List.set_cons_zero, List.set_cons_succ]
          refine take_off (i := 8) rfl rfl (by kernel_rfl) (by kernel_rfl) (by kernel_rfl) (fun _ _ _ h => h) rfl hHeld ?_
          simp only [Act.put, List.setIfInBounds_toArray, List.set_cons_zero, List.set_cons_succ]
          refine take_off (i := 9) rfl rfl (by kernel_rfl) (by kernel_rfl) (by kernel_rfl) (fun _ _ _ h => h) rfl hHeld ?_
          simp only [Act.put, List.setIfInBounds_toArray, List.set_cons_zero, List.set_cons_succ]
          refine take_off (i := 10) rfl rfl (by kernel_rfl) (by kernel_rfl) (by kernel_rfl) (fun _ _ _ h => h) rfl hHeld ?_
          simp only [Act.put, List.setIfInBounds_toArray, List.set_cons_zero, List.set_cons_succ]
          refine take_off (i := 11) rfl rfl (by kernel_rfl) (by kernel_rfl) (by kernel_rfl) (fun _ _ _ h => h) rfl hHeld ?_
          simp only [Act.put, List.setIfInBounds_toArray, List.set_cons_zero, List.set_cons_succ]
          refine take_off (i := 12) rfl rfl (by kernel_rfl) (by kernel_rfl) (by kernel_rfl) (fun _ _ _ h => h) rfl hHeld ?_
          simp only [Act.put, List.setIfInBounds_toArray, List.set_cons_zero, List.set_cons_succ]
          refine take_off (i := 13) rfl rfl (by kernel_rfl) (by kernel_rfl) (by kernel_rfl) (fun _ _ _ h => h) rfl hHeld ?_
          simp only [Act.put, List.setIfInBounds_toArray, List.set_cons_zero, List.set_cons_succ]
          refine take_off (i := 14) rfl rfl (by kernel_rfl) (by kernel_rfl) (by kernel_rfl) (fun _ _ _ h => h) rfl hHeld ?_
          simp only [Act.put, List.setIfInBounds_toArray, List.set_cons_zero, List.set_cons_succ]
          refine take_on (i := 15) (v := ?_) rfl rfl (by kernel_rfl) (by kernel_rfl) (by kernel_rfl) (fun _ _ _ h => h) rfl ?_ hHeld ?_
          rotate_left
          · (intro wq hSq; have s0 := (World.cell?_of_block (w := wr) (a := ⟨b, o, none⟩) hSq.1).trans d0; have s1 := (World.cell?_of_block (w := wr) (a := ⟨b, o + 1, none⟩) hSq.1).trans d1; have s2 := (World.cell?_of_block (w := wr) (a := ⟨b, o + 2, none⟩) hSq.1).trans d2; have r0 := (World.cell?_of_block (w := wr) (a := ⟨B, 0, none⟩) hSq.2).trans q0; have r1 := (World.cell?_of_block (w := wr) (a := ⟨B, 1, none⟩) hSq.2).trans q1; have r2 := (World.cell?_of_block (w := wr) (a := ⟨B, 2, none⟩) hSq.2).trans q2; go_simp <;> first | with_reducible rfl | rfl)
          simp only [Act.put, List.setIfInBounds_toArray, List.set_cons_zero, List.set_cons_succ]
          refine wpAnyH_done (by kernel_rfl) ?_ _
          go_wp2
          go_roundw
          case rel => exact ⟨0 + 1, by omega, by first | go_num | rfl, by rw [HF2.out], hide_it (HW.out.drew)⟩
          case measure => simp [intOf]; omega
      · obtain ⟨m, rfl⟩ : ∃ m, k = m + 1 := ⟨k - 1, by omega⟩
        have hmx : m < X.reverse.length := by omega
        obtain ⟨b', o', eb, _, dm, _, _⟩ := (HR.out.below HW.out).here hmx
        cases eb
        have hfall := HF.out m hlt
        have hmi : (m : Int) < (N : Int) := by omega
        have hm1 : (m : Int) + 1 < (N : Int) := by omega
        have hgt : decide (0 < (m : Int) + 1) = true := decide_eq_true (by omega)
        have hwm : IntKind.i64.wrap (m : Int) = (m : Int) := i64_in (by omega) (by omega)
        by_cases hA : N - U < m + 1
        · skip
          have hf : decide (N - U < m + 1) = true := decide_eq_true hA
          have hf2 : decide (N - U < m + 1 + 1) = true := decide_eq_true (by omega)
          have hge : decide ((lk X.reverse (m + 1)).n ≥ (lk X.reverse m).n) = false := decide_eq_false (by omega)
          have hge2 : decide ((lk X.reverse m).n ≤ (lk X.reverse (m + 1)).n) = false := hge
          generalize (lk X.reverse m).n = zm at *
          generalize lk X.reverse (m + 1) = zk at *
          rw [hf]
          have HF2 := hide_it hf2
          have HW2 := HW
          clear hf hf2 hp hfall hA
          go_wp2_with fail
          refine wp_region_held_drew (S := (fun w' => w'.heap[b]? = wr.heap[b]? ∧ w'.heap[B]? = wr.heap[B]?)) (by kernel_rfl) ?_ (fun hHeld => ?_)
          · exact ⟨rfl, rfl⟩
          refine take_on (i := 0) (v := ?_) rfl rfl (by kernel_rfl) (by kernel_rfl) (by kernel_rfl) (fun _ _ _ h => h) rfl ?_ hHeld ?_
          rotate_left
          · (intro wq hSq; have s0 := (World.cell?_of_block (w := wr) (a := ⟨b, o + (m + 1) * 3, none⟩) hSq.1).trans d0; have s1 := (World.cell?_of_block (w := wr) (a := ⟨b, o + (m + 1) * 3 + 1, none⟩) hSq.1).trans d1; have s2 := (World.cell?_of_block (w := wr) (a := ⟨b, o + (m + 1) * 3 + 2, none⟩) hSq.1).trans d2; have r0 := (World.cell?_of_block (w := wr) (a := ⟨B, 0, none⟩) hSq.2).trans q0; have r1 := (World.cell?_of_block (w := wr) (a := ⟨B, 1, none⟩) hSq.2).trans q1; have r2 := (World.cell?_of_block (w := wr) (a := ⟨B, 2, none⟩) hSq.2).trans q2; have m0 := (World.cell?_of_block (w := wr) (a := ⟨b, o + m * 3, none⟩) hSq.1).trans dm; go_simp <;> first | with_reducible rfl | rfl)
          simp only [Act.put, List.setIfInBounds_toArray, List.set_cons_zero, List.set_cons_succ]
          refine take_on (i := 1) (v := ?_) rfl rfl (by kernel_rfl) (by kernel_rfl) (by kernel_rfl) (fun _ _ _ h => h) rfl ?_ hHeld ?_
          rotate_left
          · (intro wq hSq; have s0 := (World.cell?_of_block (w := wr) (a := ⟨b, o + (m + 1) * 3, none⟩) hSq.1).trans d0; have s1 := (World.cell?_of_block (w := wr) (a := ⟨b, o + (m + 1) * 3 + 1, none⟩) hSq.1).trans d1; have s2 := (World.cell?_of_block (w := wr) (a := ⟨b, o + (m + 1) * 3 + 2, none⟩) hSq.1).trans d2; have r0 := (World.cell?_of_block (w := wr) (a := ⟨B, 0, none⟩) hSq.2).trans q0; have r1 := (World.cell?_of_block (w := wr) (a := ⟨B, 1, none⟩) hSq.2).trans q1; have r2 := (World.cell?_of_block (w := wr) (a := ⟨B, 2, none⟩) hSq.2).trans q2; have m0 := (World.cell?_of_block (w := wr) (a := ⟨b, o + m * 3, none⟩) hSq.1).trans dm; go_simp <;> first | with_reducible rfl | rfl)
          simp only [Act.put, List.setIfInBounds_toArray, List.set_cons_zero, List.set_cons_succ]
          refine take_on (i := 2) (v := ?_) rfl rfl (by kernel_rfl) (by kernel_rfl) (by kernel_rfl) (fun _ _ _ h => h) rfl ?_ hHeld ?_
          rotate_left
          · (intro wq hSq; have s0 := (World.cell?_of_block (w := wr) (a := ⟨b, o + (m + 1) * 3, none⟩) hSq.1).trans d0; have s1 := (World.cell?_of_block (w := wr) (a := ⟨b, o + (m + 1) * 3 + 1, none⟩) hSq.1).trans d1; have s2 := (World.cell?_of_block (w := wr) (a := ⟨b, o + (m + 1) * 3 + 2, none⟩) hSq.1).trans d2; have r0 := (World.cell?_of_block (w := wr) (a := ⟨B, 0, none⟩) hSq.2).trans q0; have r1 := (World.cell?_of_block (w := wr) (a := ⟨B, 1, none⟩) hSq.2).trans q1; have r2 := (World.cell?_of_block (w := wr) (a := ⟨B, 2, none⟩) hSq.2).trans q2; have m0 := (World.cell?_of_block (w := wr) (a := ⟨b, o + m * 3, none⟩) hSq.1).trans dm; go_simp <;> first | with_reducible rfl | rfl)
          simp only [Act.put, List.setIfInBounds_toArray, List.set_cons_zero, List.set_cons_succ]
          refine take_on (i := 3) (v := ?_) rfl rfl (by kernel_rfl) (by kernel_rfl) (by kernel_rfl) (fun _ _ _ h => h) rfl ?_ hHeld ?_
          rotate_left
          · (intro wq hSq; have s0 := (World.cell?_of_block (w := wr) (a := ⟨b, o + (m + 1) * 3, none⟩) hSq.1).trans d0; have s1 := (World.cell?_of_block (w := wr) (a := ⟨b, o + (m + 1) * 3 + 1, none⟩) hSq.1).trans d1; have s2 := (World.cell?_of_block (w := wr) (a := ⟨b, o + (m + 1) * 3 + 2, none⟩) hSq.1).trans d2; have r0 := (World.cell?_of_block (w := wr) (a := ⟨B, 0, none⟩) hSq.2).trans q0; have r1 := (World.cell?_of_block (w := wr) (a := ⟨B, 1, none⟩) hSq.2).trans q1; have r2 := (World.cell?_of_block (w := wr) (a := ⟨B, 2, none⟩) hSq.2).trans q2; have m0 := (World.cell?_of_block (w := wr) (a := ⟨b, o + m * 3, none⟩) hSq.1).trans dm; go_simp <;> first | with_reducible rfl | rfl)
          simp only [Act.put, List.setIfInBounds_toArray, List.set_cons_zero, List.set_cons_succ]
          refine take_on (i := 4) (v := ?_) rfl rfl (by kernel_rfl) (by kernel_rfl) (by kernel_rfl) (fun _ _ _ h => h) rfl ?_ hHeld ?_
          rotate_left
          · (intro wq hSq; have s0 := (World.cell?_of_block (w := wr) (a := ⟨b, o + (m + 1) * 3, none⟩) hSq.1).trans d0; have s1 := (World.cell?_of_block (w := wr) (a := ⟨b, o + (m + 1) * 3 + 1, none⟩) hSq.1).trans d1; have s2 := (World.cell?_of_block (w := wr) (a := ⟨b, o + (m + 1) * 3 + 2, none⟩) hSq.1).trans d2; have r0 := (World.cell?_of_block (w := wr) (a := ⟨B, 0, none⟩) hSq.2).trans q0; have r1 := (World.cell?_of_block (w := wr) (a := ⟨B, 1, none⟩) hSq.2).trans q1; have r2 := (World.cell?_of_block (w := wr) (a := ⟨B, 2, none⟩) hSq.2).trans q2; have m0 := (World.cell?_of_block (w := wr) (a := ⟨b, o + m * 3, none⟩) hSq.1).trans dm; go_simp <;> first | with_reducible rfl | rfl)
          simp only [Act.put, List.setIfInBounds_toArray, List.set_cons_zero, List.set_cons_succ]
          refine take_on (i := 5) (v := ?_) rfl rfl (by kernel_rfl) (by kernel_rfl) (by kernel_rfl) (fun _ _ _ h => h) rfl ?_ hHeld ?_
          rotate_left
          · (intro wq hSq; have s0 := (World.cell?_of_block (w := wr) (a := ⟨b, o + (m + 1) * 3, none⟩) hSq.1).trans d0; have s1 := (World.cell?_of_block (w := wr) (a := ⟨b, o + (m + 1) * 3 + 1, none⟩) hSq.1).trans d1; have s2 := (World.cell?_of_block (w := wr) (a := ⟨b, o + (m + 1) * 3 + 2, none⟩) hSq.1).trans d2; have r0 := (World.cell?_of_block (w := wr) (a := ⟨B, 0, none⟩) hSq.2).trans q0; have r1 := (World.cell?_of_block (w := wr) (a := ⟨B, 1, none⟩) hSq.2).trans q1; have r2 := (World.cell?_of_block (w := wr) (a := ⟨B, 2, none⟩) hSq.2).trans q2; have m0 := (World.cell?_of_block (w := wr) (a := ⟨b, o + m * 3, none⟩) hSq.1).trans dm; go_simp <;> first | with_reducible rfl | rfl)
          simp only [Act.put, List.setIfInBounds_toArray, List.set_cons_zero, List.set_cons_succ]
          refine take_on (i := 6) (v := ?_) rfl rfl (by kernel_rfl) (by kernel_rfl) (by kernel_rfl) (fun _ _ _ h => h) rfl ?_ hHeld ?_
          rotate_left
          · (intro wq hSq; have s0 := (World.cell?_of_block (w := wr) (a := ⟨b, o + (m + 1) * 3, none⟩) hSq.1).trans d0; have s1 := (World.cell?_of_block (w := wr) (a := ⟨b, o + (m + 1) * 3 + 1, none⟩) hSq.1).trans d1; have s2 := (World.cell?_of_block (w := wr) (a := ⟨b, o + (m + 1) * 3 + 2, none⟩) hSq.1).trans d2; have r0 := (World.cell?_of_block (w := wr) (a := ⟨B, 0, none⟩) hSq.2).trans q0; have r1 := (World.cell?_of_block (w := wr) (a := ⟨B, 1, none⟩) hSq.2).trans q1; have r2 := (World.cell?_of_block (w := wr) (a := ⟨B, 2, none⟩) hSq.2).trans q2; have m0 := (World.cell?_of_block (w := wr) (a := ⟨b, o + m * 3, none⟩) hSq.1).trans dm; go_simp <;> first | with_reducible rfl | rfl)
          simp only [Act.put, List.setIfInBounds_toArray, List.set_cons_zero, List.set_cons_succ]
          refine take_on (i := 7) (v := ?_) rfl rfl (by kernel_rfl) (by kernel_rfl) (by kernel_rfl) (fun _ _ _ h => h) rfl ?_ hHeld ?_
          rotate_left
          · (intro wq hSq; have s0 := (World.cell?_of_block (w := wr) (a := ⟨b, o + (m + 1) * 3, none⟩) hSq.1).trans d0; have s1 := (World.cell?_of_block (w := wr) (a := ⟨b, o + (m + 1) * 3 + 1, none⟩) hSq.1).trans d1; have s2 := (World.cell?_of_block (w := wr) (a := ⟨b, o + (m + 1) * 3 + 2, none⟩) hSq.1).trans d2; have r0 := (World.cell?_of_block (w := wr) (a := ⟨B, 0, none⟩) hSq.2).trans q0; have r1 := (World.cell?_of_block (w := wr) (a := ⟨B, 1, none⟩) hSq.2).trans q1; have r2 := (World.cell?_of_block (w := wr) (a := ⟨B, 2, none⟩) hSq.2).trans q2; have m0 := (World.cell?_of_block (w := wr) (a := ⟨b, o + m * 3, none⟩) hSq.1).trans dm; go_simp <;> first | with_reducible rfl | rfl)
          simp only [Act.put, List.setIfInBounds_toArray, List.set_cons_zero, List.set_cons_succ]
          refine take_on (i := 8) (v := ?_) rfl rfl (by kernel_rfl) (by kernel_rfl) (by kernel_rfl) (fun _ _ _ h => h) rfl ?_ hHeld ?_
          rotate_left
          · (intro wq hSq; have s0 := (World.cell?_of_block (w := wr) (a := ⟨b, o + (m + 1) * 3, none⟩) hSq.1).trans d0; have s1 := (World.cell?_of_block (w := wr) (a := ⟨b, o + (m + 1) * 3 + 1, none⟩) hSq.1).trans d1; have s2 := (World.cell?_of_block (w := wr) (a := ⟨b, o + (m + 1) * 3 + 2, none⟩) hSq.1).trans d2; have r0 := (World.cell?_of_block (w := wr) (a := ⟨B, 0, none⟩) hSq.2).trans q0; have r1 := (World.cell?_of_block (w := wr) (a := ⟨B, 1, none⟩) hSq.2).trans q1; have r2 := (World.cell?_of_block (w := wr) (a := ⟨B, 2, none⟩) hSq.2).trans q2; have m0 := (World.cell?_of_block (w := wr) (a := ⟨b, o + m * 3, none⟩) hSq.1).trans dm; go_simp <;> first | with_reducible rfl | rfl)
          simp only [Act.put, List.setIfInBounds_toArray, List.set_cons_zero, List.set_cons_succ]
          refine take_on (i := 9) (v := ?_) rfl rfl (by kernel_rfl) (by kernel_rfl) (by kernel_rfl) (fun _ _ _ h => h) rfl ?_ hHeld ?_
          rotate_left
          · (intro wq hSq; have s0 := (World.cell?_of_block (w := wr) (a := ⟨b, o + (m + 1) * 3, none⟩) hSq.1).trans d0; have s1 := (World.cell?_of_block (w := wr) (a := ⟨b, o + (m + 1) * 3 + 1, none⟩) hSq.1).trans d1; have s2 := (World.cell?_of_block (w := wr) (a := ⟨b, o + (m + 1) * 3 + 2, none⟩) hSq.1).trans d2; have r0 := (World.cell?_of_block (w := wr) (a := ⟨B, 0, none⟩) hSq.2).trans q0; have r1 := (World.cell?_of_block (w := wr) (a := ⟨B, 1, none⟩) hSq.2).trans q1; have r2 := (World.cell?_of_block (w := wr) (a := ⟨B, 2, none⟩) hSq.2).trans q2; have m0 := (World.cell?_of_block (w := wr) (a := ⟨b, o + m * 3, none⟩) hSq.1).trans dm; go_simp <;> first | with_reducible rfl | rfl)
          simp only [Act.put, List.setIfInBounds_toArray, List.set_cons_zero, List.set_cons_succ]
          refine take_on (i := 10) (v := ?_) rfl rfl (by kernel_rfl) (by kernel_rfl) (by kernel_rfl) (fun _ _ _ h => h) rfl ?_ hHeld ?_
          rotate_left
          · (intro wq hSq; have s0 := (World.cell?_of_block (w := wr) (a := ⟨b, o + (m + 1) * 3, none⟩) hSq.1).trans d0; have s1 := (World.cell?_of_block (w := wr) (a := ⟨b, o + (m + 1) * 3 + 1, none⟩) hSq.1).trans d1; have s2 := (World.cell?_of_block (w := wr) (a := ⟨b, o + (m + 1) * 3 + 2, none⟩) hSq.1).trans d2; have r0 := (World.cell?_of_block (w := wr) (a := ⟨B, 0, none⟩) hSq.2).trans q0; have r1 := (World.cell?_of_block (w := wr) (a := ⟨B, 1, none⟩) hSq.2).trans q1; have r2 := (World.cell?_of_block (w := wr) (a := ⟨B, 2, none⟩) hSq.2).trans q2; have m0 := (World.cell?_of_block (w := wr) (a := ⟨b, o + m * 3, none⟩) hSq.1).trans dm; go_simp <;> first | with_reducible rfl | rfl)
          simp only [Act.put, List.setIfInBounds_toArray, List.set_cons_zero, List.set_cons_succ]
          refine take_on (i := 11) (v := ?_) rfl rfl (by kernel_rfl) (by kernel_rfl) (by kernel_rfl) (fun _ _ _ h => h) rfl ?_ hHeld ?_
          rotate_left
          · (intro wq hSq; have s0 := (World.cell?_of_block (w := wr) (a := ⟨b, o + (m + 1) * 3, none⟩) hSq.1).trans d0; have s1 := (World.cell?_of_block (w := wr) (a := ⟨b, o + (m + 1) * 3 + 1, none⟩) hSq.1).trans d1; have s2 := (World.cell?_of_block (w := wr) (a := ⟨b, o + (m + 1) * 3 + 2, none⟩) hSq.1).trans d2; have r0 := (World.cell?_of_block (w := wr) (a := ⟨B, 0, none⟩) hSq.2).trans q0; have r1 := (World.cell?_of_block (w := wr) (a := ⟨B, 1, none⟩) hSq.2).trans q1; have r2 := (World.cell?_of_block (w := wr) (a := ⟨B, 2, none⟩) hSq.2).trans q2; have m0 := (World.cell?_of_block (w := wr) (a := ⟨b, o + m * 3, none⟩) hSq.1).trans dm; go_simp <;> first | with_reducible rfl | rfl)
          simp only [Act.put, List.setIfInBounds_toArray, List.set_cons_zero, List.set_cons_succ]
          refine take_on (i := 12) (v := ?_) rfl rfl (by kernel_rfl) (by kernel_rfl) (by kernel_rfl) (fun _ _ _ h => h) rfl ?_ hHeld ?_
          rotate_left
          · (intro wq hSq; have s0 := (World.cell?_of_block (w := wr) (a := ⟨b, o + (m + 1) * 3, none⟩) hSq.1).trans d0; have s1 := (World.cell?_of_block (w := wr) (a := ⟨b, o + (m + 1) * 3 + 1, none⟩) hSq.1).trans d1; have s2 := (World.cell?_of_block (w := wr) (a := ⟨b, o + (m + 1) * 3 + 2, none⟩) hSq.1).trans d2; have r0 := (World.cell?_of_block (w := wr) (a := ⟨B, 0, none⟩) hSq.2).trans q0; have r1 := (World.cell?_of_block (w := wr) (a := ⟨B, 1, none⟩) hSq.2).trans q1; have r2 := (World.cell?_of_block (w := wr) (a := ⟨B, 2, none⟩) hSq.2).trans q2; have m0 := (World.cell?_of_block (w := wr) (a := ⟨b, o + m * 3, none⟩) hSq.1).trans dm; go_simp <;> first | with_reducible rfl | rfl)
          simp only [Act.put, List.setIfInBounds_toArray, List.set_cons_zero, List.set_cons_succ]
          refine take_on (i := 13) (v := ?_) rfl rfl (by kernel_rfl) (by kernel_rfl) (by kernel_rfl) (fun _ _ _ h => h) rfl ?_ hHeld ?_
          rotate_left
          · (intro wq hSq; have s0 := (World.cell?_of_block (w := wr) (a := ⟨b, o + (m + 1) * 3, none⟩) hSq.1).trans d0; have s1 := (World.cell?_of_block (w := wr) (a := ⟨b, o + (m + 1) * 3 + 1, none⟩) hSq.1).trans d1; have s2 := (World.cell?_of_block (w := wr) (a := ⟨b, o + (m + 1) * 3 + 2, none⟩) hSq.1).trans d2; have r0 := (World.cell?_of_block (w := wr) (a := ⟨B, 0, none⟩) hSq.2).trans q0; have r1 := (World.cell?_of_block (w := wr) (a := ⟨B, 1, none⟩) hSq.2).trans q1; have r2 := (World.cell?_of_block (w := wr) (a := ⟨B, 2, none⟩) hSq.2).trans q2; have m0 := (World.cell?_of_block (w := wr) (a := ⟨b, o + m * 3, none⟩) hSq.1).trans dm; go_simp <;> first | with_reducible rfl | rfl)
          simp only [Act.put, List.setIfInBounds_toArray, List.set_cons_zero, List.set_cons_succ]
          refine take_on (i := 14) (v := ?_) rfl rfl (by kernel_rfl) (by kernel_rfl) (by kernel_rfl) (fun _ _ _ h => h) rfl ?_ hHeld ?_
          rotate_left
          · (intro wq hSq; have s0 := (World.cell?_of_block (w := wr) (a := ⟨b, o + (m + 1) * 3, none⟩) hSq.1).trans d0; have s1 := (World.cell?_of_block (w := wr) (a := ⟨b, o + (m + 1) * 3 + 1, none⟩) hSq.1).trans d1; have s2 := (World.cell?_of_block (w := wr) (a := ⟨b, o + (m + 1) * 3 + 2, none⟩) hSq.1).trans d2; have r0 := (World.cell?_of_block (w := wr) (a := ⟨B, 0, none⟩) hSq.2).trans q0; have r1 := (World.cell?_of_block (w := wr) (a := ⟨B, 1, none⟩) hSq.2).trans q1; have r2 := (World.cell?_of_block (w := wr) (a := ⟨B, 2, none⟩) hSq.2).trans q2; have m0 := (World.cell?_of_block (w := wr) (a := ⟨b, o + m * 3, none⟩) hSq.1).trans dm; go_simp <;> first | with_reducible rfl | rfl)
          simp only [Act.put, List.setIfInBounds_toArray, List.set_cons_zero, List.set_cons_succ]
          refine take_on (i := 15) (v := ?_) rfl rfl (by kernel_rfl) (by kernel_rfl) (by kernel_rfl) (fun _ _ _ h => h) rfl ?_ hHeld ?_
          rotate_left
          · (intro wq hSq; have s0 := (World.cell?_of_block (w := wr) (a := ⟨b, o + (m + 1) * 3, none⟩) hSq.1).trans d0; have s1 := (World.cell?_of_block (w := wr) (a := ⟨b, o + (m + 1) * 3 + 1, none⟩) hSq.1).trans d1; have s2 := (World.cell?_of_block (w := wr) (a := ⟨b, o + (m + 1) * 3 + 2, none⟩) hSq.1).trans d2; have r0 := (World.cell?_of_block (w := wr) (a := ⟨B, 0, none⟩) hSq.2).trans q0; have r1 := (World.cell?_of_block (w := wr) (a := ⟨B, 1, none⟩) hSq.2).trans q1; have r2 := (World.cell?_of_block (w := wr) (a := ⟨B, 2, none⟩) hSq.2).trans q2; have m0 := (World.cell?_of_block (w := wr) (a := ⟨b, o + m * 3, none⟩) hSq.1).trans dm; go_simp <;> first | with_reducible rfl | rfl)
          simp only [Act.put, List.setIfInBounds_toArray, List.set_cons_zero, List.set_cons_succ]
          refine wpAnyH_done (by kernel_rfl) ?_ _
          go_wp2
          go_roundw
          case rel => exact ⟨m + 1 + 1, by omega, by first | go_num | rfl, by rw [HF2.out], hide_it (HW.out.drew)⟩
          case measure => simp [intOf]; omega
        · by_cases hBq : N - U = m + 1
          · skip
            have hf : decide (N - U < m + 1) = false := decide_eq_false hA
            have hf2 : decide (N - U < m + 1 + 1) = true := decide_eq_true (by omega)
            obtain ⟨hu0, hzz⟩ := hp.2 hBq
            have hle := hp.1.2 (by omega)
            rw [hzz] at d0 d1 d2 hle hfall
            have hb1 : bb = true := by rw [HBB.out]; exact decide_eq_true hu0
            subst hb1
            have e0 : decide (Z.n ≤ s) = true := decide_eq_true hle
            have e1 : (Z.n == Z.n) = true := by simp
            have e2 : (Z.v.toList == Z.v.toList) = true := by simp
            have e3 : (Z.d == Z.d) = true := by simp
            have hge : decide (Z.n ≥ (lk X.reverse m).n) = false := decide_eq_false (by omega)
            have hge2 : decide ((lk X.reverse m).n ≤ Z.n) = false := hge
            generalize (lk X.reverse m).n = zm at *
            rw [hf]
            have HF2 := hide_it hf2
            have HW2 := HW
            clear hf hf2 hp hfall hA hBq hzz hle
            go_wp2_with fail
            refine wp_region_held_drew (S := (fun w' => w'.heap[b]? = wr.heap[b]? ∧ w'.heap[B]? = wr.heap[B]?)) (by kernel_rfl) ?_ (fun hHeld => ?_)
            · exact ⟨rfl, rfl⟩
            refine take_on (i := 0) (v := ?_) rfl rfl (by kernel_rfl) (by kernel_rfl) (by kernel_rfl) (fun _ _ _ h => h) rfl ?_ hHeld ?_
            rotate_left
            · (intro wq hSq; have s0 := (World.cell?_of_block (w := wr) (a := ⟨b, o + (m + 1) * 3, none⟩) hSq.1).trans d0; have s1 := (World.cell?_of_block (w := wr) (a := ⟨b, o + (m + 1) * 3 + 1, none⟩) hSq.1).trans d1; have s2 := (World.cell?_of_block (w := wr) (a := ⟨b, o + (m + 1) * 3 + 2, none⟩) hSq.1).trans d2; have r0 := (World.cell?_of_block (w := wr) (a := ⟨B, 0, none⟩) hSq.2).trans q0; have r1 := (World.cell?_of_block (w := wr) (a := ⟨B, 1, none⟩) hSq.2).trans q1; have r2 := (World.cell?_of_block (w := wr) (a := ⟨B, 2, none⟩) hSq.2).trans q2; have m0 := (World.cell?_of_block (w := wr) (a := ⟨b, o + m * 3, none⟩) hSq.1).trans dm; go_simp <;> first | with_reducible rfl | rfl)
            simp only [Act.put, List.setIfInBounds_toArray, List.set_cons_zero, List.set_cons_succ]
            refine take_on (i := 1) (v := ?_) rfl rfl (by kernel_rfl) (by kernel_rfl) (by kernel_rfl) (fun _ _ _ h => h) rfl ?_ hHeld ?_
            rotate_left
            · (intro wq hSq; have s0 := (World.cell?_of_block (w := wr) (a := ⟨b, o + (m + 1) * 3, none⟩) hSq.1).trans d0; have s1 := (World.cell?_of_block (w := wr) (a := ⟨b, o + (m + 1) * 3 + 1, none⟩) hSq.1).trans d1; have s2 := (World.cell?_of_block (w := wr) (a := ⟨b, o + (m + 1) * 3 + 2, none⟩) hSq.1).trans d2; have r0 := (World.cell?_of_block (w := wr) (a := ⟨B, 0, none⟩) hSq.2).trans q0; have r1 := (World.cell?_of_block (w := wr) (a := ⟨B, 1, none⟩) hSq.2).trans q1; have r2 := (World.cell?_of_block (w := wr) (a := ⟨B, 2, none⟩) hSq.2).trans q2; have m0 := (World.cell?_of_block (w := wr) (a := ⟨b, o + m * 3, none⟩) hSq.1).trans dm; go_simp <;> first | with_reducible rfl | rfl)
            simp only [Act.put, List.setIfInBounds_toArray, List.set_cons_zero, List.set_cons_succ]
            refine take_on (i := 2) (v := ?_) rfl rfl (by kernel_rfl) (by kernel_rfl) (by kernel_rfl) (fun _ _ _ h => h) rfl ?_ hHeld ?_
            rotate_left
            · (intro wq hSq; have s0 := (World.cell?_of_block (w := wr) (a := ⟨b, o + (m + 1) * 3, none⟩) hSq.1).trans d0; have s1 := (World.cell?_of_block (w := wr) (a := ⟨b, o + (m + 1) * 3 + 1, none⟩) hSq.1).trans d1; have s2 := (World.cell?_of_block (w := wr) (a := ⟨b, o + (m + 1) * 3 + 2, none⟩) hSq.1).trans d2; have r0 := (World.cell?_of_block (w := wr) (a := ⟨B, 0, none⟩) hSq.2).trans q0; have r1 := (World.cell?_of_block (w := wr) (a := ⟨B, 1, none⟩) hSq.2).trans q1; have r2 := (World.cell?_of_block (w := wr) (a := ⟨B, 2, none⟩) hSq.2).trans q2; have m0 := (World.cell?_of_block (w := wr) (a := ⟨b, o + m * 3, none⟩) hSq.1).trans dm; go_simp <;> first | with_reducible rfl | rfl)
            simp only [Act.put, List.setIfInBounds_toArray, List.set_cons_zero, List.set_cons_succ]
            refine take_on (i := 3) (v := ?_) rfl rfl (by kernel_rfl) (by kernel_rfl) (by kernel_rfl) (fun _ _ _ h => h) rfl ?_ hHeld ?_
            rotate_left
            · (intro wq hSq; have s0 := (World.cell?_of_block (w := wr) (a := ⟨b, o + (m + 1) * 3, none⟩) hSq.1).trans d0; have s1 := (World.cell?_of_block (w := wr) (a := ⟨b, o + (m + 1) * 3 + 1, none⟩) hSq.1).trans d1; have s2 := (World.cell?_of_block (w := wr) (a := ⟨b, o + (m + 1) * 3 + 2, none⟩) hSq.1).trans d2; have r0 := (World.cell?_of_block (w := wr) (a := ⟨B, 0, none⟩) hSq.2).trans q0; have r1 := (World.cell?_of_block (w := wr) (a := ⟨B, 1, none⟩) hSq.2).trans q1; have r2 := (World.cell?_of_block (w := wr) (a := ⟨B, 2, none⟩) hSq.2).trans q2; have m0 := (World.cell?_of_block (w := wr) (a := ⟨b, o + m * 3, none⟩) hSq.1).trans dm; go_simp <;> first | with_reducible rfl | rfl)
            simp only [Act.put, List.setIfInBounds_toArray, List.set_cons_zero, List.set_cons_succ]
            refine take_on (i := 4) (v := ?_) rfl rfl (by kernel_rfl) (by kernel_rfl) (by kernel_rfl) (fun _ _ _ h => h) rfl ?_ hHeld ?_
            rotate_left
            · (intro wq hSq; have s0 := (World.cell?_of_block (w := wr) (a := ⟨b, o + (m + 1) * 3, none⟩) hSq.1).trans d0; have s1 := (World.cell?_of_block (w := wr) (a := ⟨b, o + (m + 1) * 3 + 1, none⟩) hSq.1).trans d1; have s2 := (World.cell?_of_block (w := wr) (a := ⟨b, o + (m + 1) * 3 + 2, none⟩) hSq.1).trans d2; have r0 := (World.cell?_of_block (w := wr) (a := ⟨B, 0, none⟩) hSq.2).trans q0; have r1 := (World.cell?_of_block (w := wr) (a := ⟨B, 1, none⟩) hSq.2).trans q1; have r2 := (World.cell?_of_block (w := wr) (a := ⟨B, 2, none⟩) hSq.2).trans q2; have m0 := (World.cell?_of_block (w := wr) (a := ⟨b, o + m * 3, none⟩) hSq.1).trans dm; go_simp <;> first | with_reducible rfl | rfl)
            simp only [Act.put, List.setIfInBounds_toArray, List.set_cons_zero, List.set_cons_succ]
            refine take_on (i := 5) (v := ?_) rfl rfl (by kernel_rfl) (by kernel_rfl) (by kernel_rfl) (fun _ _ _ h => h) rfl ?_ hHeld ?_
            rotate_left
            · (intro wq hSq; have s0 := (World.cell?_of_block (w := wr) (a := ⟨b, o + (m + 1) * 3, none⟩) hSq.1).trans d0; have s1 := (World.cell?_of_block (w := wr) (a := ⟨b, o + (m + 1) * 3 + 1, none⟩) hSq.1).trans d1; have s2 := (World.cell?_of_block (w := wr) (a := ⟨b, o + (m + 1) * 3 + 2, none⟩) hSq.1).trans d2; have r0 := (World.cell?_of_block (w := wr) (a := ⟨B, 0, none⟩) hSq.2).trans q0; have r1 := (World.cell?_of_block (w := wr) (a := ⟨B, 1, none⟩) hSq.2).trans q1; have r2 := (World.cell?_of_block (w := wr) (a := ⟨B, 2, none⟩) hSq.2).trans q2; have m0 := (World.cell?_of_block (w := wr) (a := ⟨b, o + m * 3, none⟩) hSq.1).trans dm; go_simp <;> first | with_reducible rfl | rfl)
            simp only [Act.put, List.setIfInBounds_toArray, List.set_cons_zero, List.set_cons_succ]
            refine take_on (i := 6) (v := ?_) rfl rfl (by kernel_rfl) (by kernel_rfl) (by kernel_rfl) (fun _ _ _ h => h) rfl ?_ hHeld ?_
            rotate_left
            · (intro wq hSq; have s0 := (World.cell?_of_block (w := wr) (a := ⟨b, o + (m + 1) * 3, none⟩) hSq.1).trans d0; have s1 := (World.cell?_of_block (w := wr) (a := ⟨b, o + (m + 1) * 3 + 1, none⟩) hSq.1).trans d1; have s2 := (World.cell?_of_block (w := wr) (a := ⟨b, o + (m + 1) * 3 + 2, none⟩) hSq.1).trans d2; have r0 := (World.cell?_of_block (w := wr) (a := ⟨B, 0, none⟩) hSq.2).trans q0; have r1 := (World.cell?_of_block (w := wr) (a := ⟨B, 1, none⟩) hSq.2).trans q1; have r2 := (World.cell?_of_block (w := wr) (a := ⟨B, 2, none⟩) hSq.2).trans q2; have m0 := (World.cell?_of_block (w := wr) (a := ⟨b, o + m * 3, none⟩) hSq.1).trans dm; go_simp <;> first | with_reducible rfl | rfl)
            simp only [Act.put, List.setIfInBounds_toArray, List.set_cons_zero, List.set_cons_succ]
            refine take_on (i := 7) (v := ?_) rfl rfl (by kernel_rfl) (by kernel_rfl) (by kernel_rfl) (fun _ _ _ h => h) rfl ?_ hHeld ?_
            rotate_left
            · (intro wq hSq; have s0 := (World.cell?_of_block (w := wr) (a := ⟨b, o + (m + 1) * 3, none⟩) hSq.1).trans d0; have s1 := (World.cell?_of_block (w := wr) (a := ⟨b, o + (m + 1) * 3 + 1, none⟩) hSq.1).trans d1; have s2 := (World.cell?_of_block (w := wr) (a := ⟨b, o + (m + 1) * 3 + 2, none⟩) hSq.1).trans d2; have r0 := (World.cell?_of_block (w := wr) (a := ⟨B, 0, none⟩) hSq.2).trans q0; have r1 := (World.cell?_of_block (w := wr) (a := ⟨B, 1, none⟩) hSq.2).trans q1; have r2 := (World.cell?_of_block (w := wr) (a := ⟨B, 2, none⟩) hSq.2).trans q2; have m0 := (World.cell?_of_block (w := wr) (a := ⟨b, o + m * 3, none⟩) hSq.1).trans dm; go_simp <;> first | with_reducible rfl | rfl)
            simp only [Act.put, List.setIfInBounds_toArray, List.set_cons_zero, List.set_cons_succ]
            refine take_on (i := 8) (v := ?_) rfl rfl (by kernel_rfl) (by kernel_rfl) (by kernel_rfl) (fun _ _ _ h => h) rfl ?_ hHeld ?_
            rotate_left
            · (intro wq hSq; have s0 := (World.cell?_of_block (w := wr) (a := ⟨b, o + (m + 1) * 3, none⟩) hSq.1).trans d0; have s1 := (World.cell?_of_block (w := wr) (a := ⟨b, o + (m + 1) * 3 + 1, none⟩) hSq.1).trans d1; have s2 := (World.cell?_of_block (w := wr) (a := ⟨b, o + (m + 1) * 3 + 2, none⟩) hSq.1).trans d2; have r0 := (World.cell?_of_block (w := wr) (a := ⟨B, 0, none⟩) hSq.2).trans q0; have r1 := (World.cell?_of_block (w := wr) (a := ⟨B, 1, none⟩) hSq.2).trans q1; have r2 := (World.cell?_of_block (w := wr) (a := ⟨B, 2, none⟩) hSq.2).trans q2; have m0 := (World.cell?_of_block (w := wr) (a := ⟨b, o + m * 3, none⟩) hSq.1).trans dm; go_simp <;> first | with_reducible rfl | rfl)
            simp only [Act.put, List.setIfInBounds_toArray, List.set_cons_zero, List.set_cons_succ]
            refine take_on (i := 9) (v := ?_) rfl rfl (by kernel_rfl) (by kernel_rfl) (by kernel_rfl) (fun _ _ _ h => h) rfl ?_ hHeld ?_
            rotate_left
            · (intro wq hSq; have s0 := (World.cell?_of_block (w := wr) (a := ⟨b, o + (m + 1) * 3, none⟩) hSq.1).trans d0; have s1 := (World.cell?_of_block (w := wr) (a := ⟨b, o + (m + 1) * 3 + 1, none⟩) hSq.1).trans d1; have s2 := (World.cell?_of_block (w := wr) (a := ⟨b, o + (m + 1) * 3 + 2, none⟩) hSq.1).trans d2; have r0 := (World.cell?_of_block (w := wr) (a := ⟨B, 0, none⟩) hSq.2).trans q0; have r1 := (World.cell?_of_block (w := wr) (a := ⟨B, 1, none⟩) hSq.2).trans q1; have r2 := (World.cell?_of_block (w := wr) (a := ⟨B, 2, none⟩) hSq.2).trans q2; have m0 := (World.cell?_of_block (w := wr) (a := ⟨b, o + m * 3, none⟩) hSq.1).trans dm; go_simp <;> first | with_reducible rfl | rfl)
            simp only [Act.put, List.setIfInBounds_toArray, List.set_cons_zero, List.set_cons_succ]
            refine take_on (i := 10) (v := ?_) rfl rfl (by kernel_rfl) (by kernel_rfl) (by kernel_rfl) (fun _ _ _ h => h) rfl ?_ hHeld ?_
            rotate_left
            · (intro wq hSq; have s0 := (World.cell?_of_block (w := wr) (a := ⟨b, o + (m + 1) * 3, none⟩) hSq.1).trans d0; have s1 := (World.cell?_of_block (w := wr) (a := ⟨b, o + (m + 1) * 3 + 1, none⟩) hSq.1).trans d1; have s2 := (World.cell?_of_block (w := wr) (a := ⟨b, o + (m + 1) * 3 + 2, none⟩) hSq.1).trans d2; have r0 := (World.cell?_of_block (w := wr) (a := ⟨B, 0, none⟩) hSq.2).trans q0; have r1 := (World.cell?_of_block (w := wr) (a := ⟨B, 1, none⟩) hSq.2).trans q1; have r2 := (World.cell?_of_block (w := wr) (a := ⟨B, 2, none⟩) hSq.2).trans q2; have m0 := (World.cell?_of_block (w := wr) (a := ⟨b, o + m * 3, none⟩) hSq.1).trans dm; go_simp <;> first | with_reducible rfl | rfl)
            simp only [Act.put, List.setIfInBounds_toArray, List.set_cons_zero, List.set_cons_succ]
            refine take_on (i := 11) (v := ?_) rfl rfl (by kernel_rfl) (by kernel_rfl) (by kernel_rfl) (fun _ _ _ h => h) rfl ?_ hHeld ?_
            rotate_left
            · (intro wq hSq; have s0 := (World.cell?_of_block (w := wr) (a := ⟨b, o + (m + 1) * 3, none⟩) hSq.1).trans d0; have s1 := (World.cell?_of_block (w := wr) (a := ⟨b, o + (m + 1) * 3 + 1, none⟩) hSq.1).trans d1; have s2 := (World.cell?_of_block (w := wr) (a := ⟨b, o + (m + 1) * 3 + 2, none⟩) hSq.1).trans d2; have r0 := (World.cell?_of_block (w := wr) (a := ⟨B, 0, none⟩) hSq.2).trans q0; have r1 := (World.cell?_of_block (w := wr) (a := ⟨B, 1, none⟩) hSq.2).trans q1; have r2 := (World.cell?_of_block (w := wr) (a := ⟨B, 2, none⟩) hSq.2).trans q2; have m0 := (World.cell?_of_block (w := wr) (a := ⟨b, o + m * 3, none⟩) hSq.1).trans dm; go_simp <;> first | with_reducible rfl | rfl)
            simp only [Act.put, List.setIfInBounds_toArray, List.set_cons_zero, List.set_cons_succ]
            refine take_on (i := 12) (v := ?_) rfl rfl (by kernel_rfl) (by kernel_rfl) (by kernel_rfl) (fun _ _ _ h => h) rfl ?_ hHeld ?_
            rotate_left
            · (intro wq hSq; have s0 := (World.cell?_of_block (w := wr) (a := ⟨b, o + (m + 1) * 3, none⟩) hSq.1).trans d0; have s1 := (World.cell?_of_block (w := wr) (a := ⟨b, o + (m + 1) * 3 + 1, none⟩) hSq.1).trans d1; have s2 := (World.cell?_of_block (w := wr) (a := ⟨b, o + (m + 1) * 3 + 2, none⟩) hSq.1).trans d2; have r0 := (World.cell?_of_block (w := wr) (a := ⟨B, 0, none⟩) hSq.2).trans q0; have r1 := (World.cell?_of_block (w := wr) (a := ⟨B, 1, none⟩) hSq.2).trans q1; have r2 := (World.cell?_of_block (w := wr) (a := ⟨B, 2, none⟩) hSq.2).trans q2; have m0 := (World.cell?_of_block (w := wr) (a := ⟨b, o + m * 3, none⟩) hSq.1).trans dm; go_simp <;> first | with_reducible rfl | rfl)
            simp only [Act.put, List.setIfInBounds_toArray, List.set_cons_zero, List.set_cons_succ]
            refine take_on (i := 13) (v := ?_) rfl rfl (by kernel_rfl) (by kernel_rfl) (by kernel_rfl) (fun _ _ _ h => h) rfl ?_ hHeld ?_
            rotate_left
            · (intro wq hSq; have s0 := (World.cell?_of_block (w := wr) (a := ⟨b, o + (m + 1) * 3, none⟩) hSq.1).trans d0; have s1 := (World.cell?_of_block (w := wr) (a := ⟨b, o + (m + 1) * 3 + 1, none⟩) hSq.1).trans d1; have s2 := (World.cell?_of_block (w := wr) (a := ⟨b, o + (m + 1) * 3 + 2, none⟩) hSq.1).trans d2; have r0 := (World.cell?_of_block (w := wr) (a := ⟨B, 0, none⟩) hSq.2).trans q0; have r1 := (World.cell?_of_block (w := wr) (a := ⟨B, 1, none⟩) hSq.2).trans q1; have r2 := (World.cell?_of_block (w := wr) (a := ⟨B, 2, none⟩) hSq.2).trans q2; have m0 := (World.cell?_of_block (w := wr) (a := ⟨b, o + m * 3, none⟩) hSq.1).trans dm; go_simp <;> first | with_reducible rfl | rfl)
            simp only [Act.put, List.setIfInBounds_toArray, List.set_cons_zero, List.set_cons_succ]
            refine take_on (i := 14) (v := ?_) rfl rfl (by kernel_rfl) (by kernel_rfl) (by kernel_rfl) (fun _ _ _ h => h) rfl ?_ hHeld ?_
            rotate_left
            · (intro wq hSq; have s0 := (World.cell?_of_block (w := wr) (a := ⟨b, o + (m + 1) * 3, none⟩) hSq.1).trans d0; have s1 := (World.cell?_of_block (w := wr) (a := ⟨b, o + (m + 1) * 3 + 1, none⟩) hSq.1).trans d1; have s2 := (World.cell?_of_block (w := wr) (a := ⟨b, o + (m + 1) * 3 + 2, none⟩) hSq.1).trans d2; have r0 := (World.cell?_of_block (w := wr) (a := ⟨B, 0, none⟩) hSq.2).trans q0; have r1 := (World.cell?_of_block (w := wr) (a := ⟨B, 1, none⟩) hSq.2).trans q1; have r2 := (World.cell?_of_block (w := wr) (a := ⟨B, 2, none⟩) hSq.2).trans q2; have m0 := (World.cell?_of_block (w := wr) (a := ⟨b, o + m * 3, none⟩) hSq.1).trans dm; go_simp <;> first | with_reducible rfl | rfl)
            simp only [Act.put, List.setIfInBounds_toArray, List.set_cons_zero, List.set_cons_succ]
            refine take_on (i := 15) (v := ?_) rfl rfl (by kernel_rfl) (by kernel_rfl) (by kernel_rfl) (fun _ _ _ h => h) rfl ?_ hHeld ?_
            rotate_left
            · (intro wq hSq; have s0 := (World.cell?_of_block (w := wr) (a := ⟨b, o + (m + 1) * 3, none⟩) hSq.1).trans d0; have s1 := (World.cell?_of_block (w := wr) (a := ⟨b, o + (m + 1) * 3 + 1, none⟩) hSq.1).trans d1; have s2 := (World.cell?_of_block (w := wr) (a := ⟨b, o + (m + 1) * 3 + 2, none⟩) hSq.1).trans d2; have r0 := (World.cell?_of_block (w := wr) (a := ⟨B, 0, none⟩) hSq.2).trans q0; have r1 := (World.cell?_of_block (w := wr) (a := ⟨B, 1, none⟩) hSq.2).trans q1; have r2 := (World.cell?_of_block (w := wr) (a := ⟨B, 2, none⟩) hSq.2).trans q2; have m0 := (World.cell?_of_block (w := wr) (a := ⟨b, o + m * 3, none⟩) hSq.1).trans dm; go_simp <;> first | with_reducible rfl | rfl)
            simp only [Act.put, List.setIfInBounds_toArray, List.set_cons_zero, List.set_cons_succ]
            refine wpAnyH_done (by kernel_rfl) ?_ _
            go_wp2_with fail
            refine wp_region_held_drew (S := (fun w' => w'.heap[b]? = wr.heap[b]? ∧ w'.heap[B]? = wr.heap[B]?)) (by kernel_rfl) ?_ (fun hHeld => ?_)
            · exact ⟨rfl, rfl⟩
            refine take_on (i := 0) (v := ?_) rfl rfl (by kernel_rfl) (by kernel_rfl) (by kernel_rfl) (fun _ _ _ h => h) rfl ?_ hHeld ?_
            rotate_left
            · (intro wq hSq; have s0 := (World.cell?_of_block (w := wr) (a := ⟨b, o + (m + 1) * 3, none⟩) hSq.1).trans d0; have s1 := (World.cell?_of_block (w := wr) (a := ⟨b, o + (m + 1) * 3 + 1, none⟩) hSq.1).trans d1; have s2 := (World.cell?_of_block (w := wr) (a := ⟨b, o + (m + 1) * 3 + 2, none⟩) hSq.1).trans d2; have r0 := (World.cell?_of_block (w := wr) (a := ⟨B, 0, none⟩) hSq.2).trans q0; have r1 := (World.cell?_of_block (w := wr) (a := ⟨B, 1, none⟩) hSq.2).trans q1; have r2 := (World.cell?_of_block (w := wr) (a := ⟨B, 2, none⟩) hSq.2).trans q2; have m0 := (World.cell?_of_block (w := wr) (a := ⟨b, o + m * 3, none⟩) hSq.1).trans dm; go_simp <;> first | with_reducible rfl | rfl)
            simp only [Act.put, List.setIfInBounds_toArray, List.set_cons_zero, List.set_cons_succ]
            refine take_on (i := 1) (v := ?_) rfl rfl (by kernel_rfl) (by kernel_rfl) (by kernel_rfl) (fun _ _ _ h => h) rfl ?_ hHeld ?_
            rotate_left
            · (intro wq hSq; have s0 := (World.cell?_of_block (w := wr) (a := ⟨b, o + (m + 1) * 3, none⟩) hSq.1).trans d0; have s1 := (World.cell?_of_block (w := wr) (a := ⟨b, o + (m + 1) * 3 + 1, none⟩) hSq.1).trans d1; have s2 := (World.cell?_of_block (w := wr) (a := ⟨b, o + (m + 1) * 3 + 2, none⟩) hSq.1).trans d2; have r0 := (World.cell?_of_block (w := wr) (a := ⟨B, 0, none⟩) hSq.2).trans q0; have r1 := (World.cell?_of_block (w := wr) (a := ⟨B, 1, none⟩) hSq.2).trans q1; have r2 := (World.cell?_of_block (w := wr) (a := ⟨B, 2, none⟩) hSq.2).trans q2; have m0 := (World.cell?_of_block (w := wr) (a := ⟨b, o + m * 3, none⟩) hSq.1).trans dm; go_simp <;> first | with_reducible rfl | rfl)
            simp only [Act.put, List.setIfInBounds_toArray, List.set_cons_zero, List.set_cons_succ]
            refine take_on (i := 2) (v := ?_) rfl rfl (by kernel_rfl) (by kernel_rfl) (by kernel_rfl) (fun _ _ _ h => h) rfl ?_ hHeld ?_
            rotate_left
            · (intro wq hSq; have s0 := (World.cell?_of_block (w := wr) (a := ⟨b, o + (m + 1) * 3, none⟩) hSq.1).trans d0; have s1 := (World.cell?_of_block (w := wr) (a := ⟨b, o + (m + 1) * 3 + 1, none⟩) hSq.1).trans d1; have s2 := (World.cell?_of_block (w := wr) (a := ⟨b, o + (m + 1) * 3 + 2, none⟩) hSq.1).trans d2; have r0 := (World.cell?_of_block (w := wr) (a := ⟨B, 0, none⟩) hSq.2).trans q0; have r1 := (World.cell?_of_block (w := wr) (a := ⟨B, 1, none⟩) hSq.2).trans q1; have r2 := (World.cell?_of_block (w := wr) (a := ⟨B, 2, none⟩) hSq.2).trans q2; have m0 := (World.cell?_of_block (w := wr) (a := ⟨b, o + m * 3, none⟩) hSq.1).trans dm; go_simp <;> first | with_reducible rfl | rfl)
            simp only [Act.put, List.setIfInBounds_toArray, List.set_cons_zero, List.set_cons_succ]
            refine take_on (i := 3) (v := ?_) rfl rfl (by kernel_rfl) (by kernel_rfl) (by kernel_rfl) (fun _ _ _ h => h) rfl ?_ hHeld ?_
            rotate_left
            · (intro wq hSq; have s0 := (World.cell?_of_block (w := wr) (a := ⟨b, o + (m + 1) * 3, none⟩) hSq.1).trans d0; have s1 := (World.cell?_of_block (w := wr) (a := ⟨b, o + (m + 1) * 3 + 1, none⟩) hSq.1).trans d1; have s2 := (World.cell?_of_block (w := wr) (a := ⟨b, o + (m + 1) * 3 + 2, none⟩) hSq.1).trans d2; have r0 := (World.cell?_of_block (w := wr) (a := ⟨B, 0, none⟩) hSq.2).trans q0; have r1 := (World.cell?_of_block (w := wr) (a := ⟨B, 1, none⟩) hSq.2).trans q1; have r2 := (World.cell?_of_block (w := wr) (a := ⟨B, 2, none⟩) hSq.2).trans q2; have m0 := (World.cell?_of_block (w := wr) (a := ⟨b, o + m * 3, none⟩) hSq.1).trans dm; go_simp <;> first | with_reducible rfl | rfl)
            simp only [Act.put, List.setIfInBounds_toArray, List.set_cons_zero, List.set_cons_succ]
            refine take_on (i := 4) (v := ?_) rfl rfl (by kernel_rfl) (by kernel_rfl) (by kernel_rfl) (fun _ _ _ h => h) rfl ?_ hHeld ?_
            rotate_left
            · (intro wq hSq; have s0 := (World.cell?_of_block (w := wr) (a := ⟨b, o + (m + 1) * 3, none⟩) hSq.1).trans d0; have s1 := (World.cell?_of_block (w := wr) (a := ⟨b, o + (m + 1) * 3 + 1, none⟩) hSq.1).trans d1; have s2 := (World.cell?_of_block (w := wr) (a := ⟨b, o + (m + 1) * 3 + 2, none⟩) hSq.1).trans d2; have r0 := (World.cell?_of_block (w := wr) (a := ⟨B, 0, none⟩) hSq.2).trans q0; have r1 := (World.cell?_of_block (w := wr) (a := ⟨B, 1, none⟩) hSq.2).trans q1; have r2 := (World.cell?_of_block (w := wr) (a := ⟨B, 2, none⟩) hSq.2).trans q2; have m0 := (World.cell?_of_block (w := wr) (a := ⟨b, o + m * 3, none⟩) hSq.1).trans dm; go_simp <;> first | with_reducible rfl | rfl)
            simp only [Act.put, List.setIfInBounds_toArray, List.set_cons_zero, List.set_cons_succ]
            refine take_on (i := 5) (v := ?_) rfl rfl (by kernel_rfl) (by kernel_rfl) (by kernel_rfl) (fun _ _ _ h => h) rfl ?_ hHeld ?_
            rotate_left
            · (intro wq hSq; have s0 := (World.cell?_of_block (w := wr) (a := ⟨b, o + (m + 1) * 3, none⟩) hSq.1).trans d0; have s1 := (World.cell?_of_block (w := wr) (a := ⟨b, o + (m + 1) * 3 + 1, none⟩) hSq.1).trans d1; have s2 := (World.cell?_of_block (w := wr) (a := ⟨b, o + (m + 1) * 3 + 2, none⟩) hSq.1).trans d2; have r0 := (World.cell?_of_block (w := wr) (a := ⟨B, 0, none⟩) hSq.2).trans q0; have r1 := (World.cell?_of_block (w := wr) (a := ⟨B, 1, none⟩) hSq.2).trans q1; have r2 := (World.cell?_of_block (w := wr) (a := ⟨B, 2, none⟩) hSq.2).trans q2; have m0 := (World.cell?_of_block (w := wr) (a := ⟨b, o + m * 3, none⟩) hSq.1).trans dm; go_simp <;> first | with_reducible rfl | rfl)
            simp only [Act.put, List.setIfInBounds_toArray, List.set_cons_zero, List.set_cons_succ]
            refine take_on (i := 6) (v := ?_) rfl rfl (by kernel_rfl) (by kernel_rfl) (by kernel_rfl) (fun _ _ _ h => h) rfl ?_ hHeld ?_
            rotate_left
            · (intro wq hSq; have s0 := (World.cell?_of_block (w := wr) (a := ⟨b, o + (m + 1) * 3, none⟩) hSq.1).trans d0; have s1 := (World.cell?_of_block (w := wr) (a := ⟨b, o + (m + 1) * 3 + 1, none⟩) hSq.1).trans d1; have s2 := (World.cell?_of_block (w := wr) (a := ⟨b, o + (m + 1) * 3 + 2, none⟩) hSq.1).trans d2; have r0 := (World.cell?_of_block (w := wr) (a := ⟨B, 0, none⟩) hSq.2).trans q0; have r1 := (World.cell?_of_block (w := wr) (a := ⟨B, 1, none⟩) hSq.2).trans q1; have r2 := (World.cell?_of_block (w := wr) (a := ⟨B, 2, none⟩) hSq.2).trans q2; have m0 := (World.cell?_of_block (w := wr) (a := ⟨b, o + m * 3, none⟩) hSq.1).trans dm; go_simp <;> first | with_reducible rfl | rfl)
            simp only [Act.put, List.setIfInBounds_toArray, List.set_cons_zero, List.set_cons_succ]
            refine take_on (i := 7) (v := ?_) rfl rfl (by kernel_rfl) (by kernel_rfl) (by kernel_rfl) (fun _ _ _ h => h) rfl ?_ hHeld ?_
            rotate_left
            · (intro wq hSq; have s0 := (World.cell?_of_block (w := wr) (a := ⟨b, o + (m + 1) * 3, none⟩) hSq.1).trans d0; have s1 := (World.cell?_of_block (w := wr) (a := ⟨b, o + (m + 1) * 3 + 1, none⟩) hSq.1).trans d1; have s2 := (World.cell?_of_block (w := wr) (a := ⟨b, o + (m + 1) * 3 + 2, none⟩) hSq.1).trans d2; have r0 := (World.cell?_of_block (w := wr) (a := ⟨B, 0, none⟩) hSq.2).trans q0; have r1 := (World.cell?_of_block (w := wr) (a := ⟨B, 1, none⟩) hSq.2).trans q1; have r2 := (World.cell?_of_block (w := wr) (a := ⟨B, 2, none⟩) hSq.2).trans q2; have m0 := (World.cell?_of_block (w := wr) (a := ⟨b, o + m * 3, none⟩) hSq.1).trans dm; go_simp <;> first | with_reducible rfl | rfl)
            simp only [Act.put, List.setIfInBounds_toArray, List.set_cons_zero, List.set_cons_succ]
            refine take_on (i := 8) (v := ?_) rfl rfl (by kernel_rfl) (by kernel_rfl) (by kernel_rfl) (fun _ _ _ h => h) rfl ?_ hHeld ?_
            rotate_left
            · (intro wq hSq; have s0 := (World.cell?_of_block (w := wr) (a := ⟨b, o + (m + 1) * 3, none⟩) hSq.1).trans d0; have s1 := (World.cell?_of_block (w := wr) (a := ⟨b, o + (m + 1) * 3 + 1, none⟩) hSq.1).trans d1; have s2 := (World.cell?_of_block (w := wr) (a := ⟨b, o + (m + 1) * 3 + 2, none⟩) hSq.1).trans d2; have r0 := (World.cell?_of_block (w := wr) (a := ⟨B, 0, none⟩) hSq.2).trans q0; have r1 := (World.cell?_of_block (w := wr) (a := ⟨B, 1, none⟩) hSq.2).trans q1; have r2 := (World.cell?_of_block (w := wr) (a := ⟨B, 2, none⟩) hSq.2).trans q2; have m0 := (World.cell?_of_block (w := wr) (a := ⟨b, o + m * 3, none⟩) hSq.1).trans dm; go_simp <;> first | with_reducible rfl | rfl)
            simp only [Act.put, List.setIfInBounds_toArray, List.set_cons_zero, List.set_cons_succ]
            refine take_on (i := 9) (v := ?_) rfl rfl (by kernel_rfl) (by kernel_rfl) (by kernel_rfl) (fun _ _ _ h => h) rfl ?_ hHeld ?_
            rotate_left
            · (intro wq hSq; have s0 := (World.cell?_of_block (w := wr) (a := ⟨b, o + (m + 1) * 3, none⟩) hSq.1).trans d0; have s1 := (World.cell?_of_block (w := wr) (a := ⟨b, o + (m + 1) * 3 + 1, none⟩) hSq.1).trans d1; have s2 := (World.cell?_of_block (w := wr) (a := ⟨b, o + (m + 1) * 3 + 2, none⟩) hSq.1).trans d2; have r0 := (World.cell?_of_block (w := wr) (a := ⟨B, 0, none⟩) hSq.2).trans q0; have r1 := (World.cell?_of_block (w := wr) (a := ⟨B, 1, none⟩) hSq.2).trans q1; have r2 := (World.cell?_of_block (w := wr) (a := ⟨B, 2, none⟩) hSq.2).trans q2; have m0 := (World.cell?_of_block (w := wr) (a := ⟨b, o + m * 3, none⟩) hSq.1).trans dm; go_simp <;> first | with_reducible rfl | rfl)
            simp only [Act.put, List.setIfInBounds_toArray, List.set_cons_zero, List.set_cons_succ]
            refine wpAnyH_done (by kernel_rfl) ?_ _
            go_wp2
            go_roundw
            case rel => exact ⟨m + 1 + 1, by omega, by first | go_num | rfl, by rw [HF2.out], hide_it ((HW.out.drew).drew)⟩
            case measure => simp [intOf]; omega
          · skip
            have hf : decide (N - U < m + 1) = false := decide_eq_false hA
            have hf2 : decide (N - U < m + 1 + 1) = false := decide_eq_false (by omega)
            have e0 : decide ((lk X.reverse (m + 1)).n ≤ s) = false := decide_eq_false (fun h9 => by have := hp.1.1 h9; omega)
            have hge : decide ((lk X.reverse (m + 1)).n ≥ (lk X.reverse m).n) = false := decide_eq_false (by omega)
            have hge2 : decide ((lk X.reverse m).n ≤ (lk X.reverse (m + 1)).n) = false := hge
            generalize (lk X.reverse m).n = zm at *
            generalize lk X.reverse (m + 1) = zk at *
            rw [hf]
            have HF2 := hide_it hf2
            have HW2 := HW
            clear hf hf2 hp hfall hA
            go_wp2_with fail
            refine wp_region_held_drew (S := (fun w' => w'.heap[b]? = wr.heap[b]? ∧ w'.heap[B]? = wr.heap[B]?)) (by kernel_rfl) ?_ (fun hHeld => ?_)
            · exact ⟨rfl, rfl⟩
            refine take_on (i := 0) (v := ?_) rfl rfl (by kernel_rfl) (by kernel_rfl) (by kernel_rfl) (fun _ _ _ h => h) rfl ?_ hHeld ?_
            rotate_left
            · (intro wq hSq; have s0 := (World.cell?_of_block (w := wr) (a := ⟨b, o + (m + 1) * 3, none⟩) hSq.1).trans d0; have s1 := (World.cell?_of_block (w := wr) (a := ⟨b, o + (m + 1) * 3 + 1, none⟩) hSq.1).trans d1; have s2 := (World.cell?_of_block (w := wr) (a := ⟨b, o + (m + 1) * 3 + 2, none⟩) hSq.1).trans d2; have r0 := (World.cell?_of_block (w := wr) (a := ⟨B, 0, none⟩) hSq.2).trans q0; have r1 := (World.cell?_of_block (w := wr) (a := ⟨B, 1, none⟩) hSq.2).trans q1; have r2 := (World.cell?_of_block (w := wr) (a := ⟨B, 2, none⟩) hSq.2).trans q2; have m0 := (World.cell?_of_block (w := wr) (a := ⟨b, o + m * 3, none⟩) hSq.1).trans dm; go_simp <;> first | with_reducible rfl | rfl)
            simp only [Act.put, List.setIfInBounds_toArray, List.set_cons_zero, List.set_cons_succ]
            refine take_on (i := 1) (v := ?_) rfl rfl (by kernel_rfl) (by kernel_rfl) (by kernel_rfl) (fun _ _ _ h => h) rfl ?_ hHeld ?_
            rotate_left
            · (intro wq hSq; have s0 := (World.cell?_of_block (w := wr) (a := ⟨b, o + (m + 1) * 3, none⟩) hSq.1).trans d0; have s1 := (World.cell?_of_block (w := wr) (a := ⟨b, o + (m + 1) * 3 + 1, none⟩) hSq.1).trans d1; have s2 := (World.cell?_of_block (w := wr) (a := ⟨b, o + (m + 1) * 3 + 2, none⟩) hSq.1).trans d2; have r0 := (World.cell?_of_block (w := wr) (a := ⟨B, 0, none⟩) hSq.2).trans q0; have r1 := (World.cell?_of_block (w := wr) (a := ⟨B, 1, none⟩) hSq.2).trans q1; have r2 := (World.cell?_of_block (w := wr) (a := ⟨B, 2, none⟩) hSq.2).trans q2; have m0 := (World.cell?_of_block (w := wr) (a := ⟨b, o + m * 3, none⟩) hSq.1).trans dm; go_simp <;> first | with_reducible rfl | rfl)
            simp only [Act.put, List.setIfInBounds_toArray, List.set_cons_zero, List.set_cons_succ]
            refine take_on (i := 2) (v := ?_) rfl rfl (by kernel_rfl) (by kernel_rfl) (by kernel_rfl) (fun _ _ _ h => h) rfl ?_ hHeld ?_
            rotate_left
            · (intro wq hSq; have s0 := (World.cell?_of_block (w := wr) (a := ⟨b, o + (m + 1) * 3, none⟩) hSq.1).trans d0; have s1 := (World.cell?_of_block (w := wr) (a := ⟨b, o + (m + 1) * 3 + 1, none⟩) hSq.1).trans d1; have s2 := (World.cell?_of_block (w := wr) (a := ⟨b, o + (m + 1) * 3 + 2, none⟩) hSq.1).trans d2; have r0 := (World.cell?_of_block (w := wr) (a := ⟨B, 0, none⟩) hSq.2).trans q0; have r1 := (World.cell?_of_block (w := wr) (a := ⟨B, 1, none⟩) hSq.2).trans q1; have r2 := (World.cell?_of_block (w := wr) (a := ⟨B, 2, none⟩) hSq.2).trans q2; have m0 := (World.cell?_of_block (w := wr) (a := ⟨b, o + m * 3, none⟩) hSq.1).trans dm; go_simp <;> first | with_reducible rfl | rfl)
            simp only [Act.put, List.setIfInBounds_toArray, List.set_cons_zero, List.set_cons_succ]
            refine take_on (i := 3) (v := ?_) rfl rfl (by kernel_rfl) (by kernel_rfl) (by kernel_rfl) (fun _ _ _ h => h) rfl ?_ hHeld ?_
            rotate_left
            · (intro wq hSq; have s0 := (World.cell?_of_block (w := wr) (a := ⟨b, o + (m + 1) * 3, none⟩) hSq.1).trans d0; have s1 := (World.cell?_of_block (w := wr) (a := ⟨b, o + (m + 1) * 3 + 1, none⟩) hSq.1).trans d1; have s2 := (World.cell?_of_block (w := wr) (a := ⟨b, o + (m + 1) * 3 + 2, none⟩) hSq.1).trans d2; have r0 := (World.cell?_of_block (w := wr) (a := ⟨B, 0, none⟩) hSq.2).trans q0; have r1 := (World.cell?_of_block (w := wr) (a := ⟨B, 1, none⟩) hSq.2).trans q1; have r2 := (World.cell?_of_block (w := wr) (a := ⟨B, 2, none⟩) hSq.2).trans q2; have m0 := (World.cell?_of_block (w := wr) (a := ⟨b, o + m * 3, none⟩) hSq.1).trans dm; go_simp <;> first | with_reducible rfl | rfl)
            simp only [Act.put, List.setIfInBounds_toArray, List.set_cons_zero, List.set_cons_succ]
            refine take_on (i := 4) (v := ?_) rfl rfl (by kernel_rfl) (by kernel_rfl) (by kernel_rfl) (fun _ _ _ h => h) rfl ?_ hHeld ?_
            rotate_left
            · (intro wq hSq; have s0 := (World.cell?_of_block (w := wr) (a := ⟨b, o + (m + 1) * 3, none⟩) hSq.1).trans d0; have s1 := (World.cell?_of_block (w := wr) (a := ⟨b, o + (m + 1) * 3 + 1, none⟩) hSq.1).trans d1; have s2 := (World.cell?_of_block (w := wr) (a := ⟨b, o + (m + 1) * 3 + 2, none⟩) hSq.1).trans d2; have r0 := (World.cell?_of_block (w := wr) (a := ⟨B, 0, none⟩) hSq.2).trans q0; have r1 := (World.cell?_of_block (w := wr) (a := ⟨B, 1, none⟩) hSq.2).trans q1; have r2 := (World.cell?_of_block (w := wr) (a := ⟨B, 2, none⟩) hSq.2).trans q2; have m0 := (World.cell?_of_block (w := wr) (a := ⟨b, o + m * 3, none⟩) hSq.1).trans dm; go_simp <;> first | with_reducible rfl | rfl)
            simp only [Act.put, List.setIfInBounds_toArray, List.set_cons_zero, List.set_cons_succ]
            refine take_on (i := 5) (v := ?_) rfl rfl (by kernel_rfl) (by kernel_rfl) (by kernel_rfl) (fun _ _ _ h => h) rfl ?_ hHeld ?_
            rotate_left
            · (intro wq hSq; have s0 := (World.cell?_of_block (w := wr) (a := ⟨b, o + (m + 1) * 3, none⟩) hSq.1).trans d0; have s1 := (World.cell?_of_block (w := wr) (a := ⟨b, o + (m + 1) * 3 + 1, none⟩) hSq.1).trans d1; have s2 := (World.cell?_of_block (w := wr) (a := ⟨b, o + (m + 1) * 3 + 2, none⟩) hSq.1).trans d2; have r0 := (World.cell?_of_block (w := wr) (a := ⟨B, 0, none⟩) hSq.2).trans q0; have r1 := (World.cell?_of_block (w := wr) (a := ⟨B, 1, none⟩) hSq.2).trans q1; have r2 := (World.cell?_of_block (w := wr) (a := ⟨B, 2, none⟩) hSq.2).trans q2; have m0 := (World.cell?_of_block (w := wr) (a := ⟨b, o + m * 3, none⟩) hSq.1).trans dm; go_simp <;> first | with_reducible rfl | rfl)
            simp only [Act.put, List.setIfInBounds_toArray, List.set_cons_zero, List.set_cons_succ]
            refine take_on (i := 6) (v := ?_) rfl rfl (by kernel_rfl) (by kernel_rfl) (by kernel_rfl) (fun _ _ _ h => h) rfl ?_ hHeld ?_
            rotate_left
            · (intro wq hSq; have s0 := (World.cell?_of_block (w := wr) (a := ⟨b, o + (m + 1) * 3, none⟩) hSq.1).trans d0; have s1 := (World.cell?_of_block (w := wr) (a := ⟨b, o + (m + 1) * 3 + 1, none⟩) hSq.1).trans d1; have s2 := (World.cell?_of_block (w := wr) (a := ⟨b, o + (m + 1) * 3 + 2, none⟩) hSq.1).trans d2; have r0 := (World.cell?_of_block (w := wr) (a := ⟨B, 0, none⟩) hSq.2).trans q0; have r1 := (World.cell?_of_block (w := wr) (a := ⟨B, 1, none⟩) hSq.2).trans q1; have r2 := (World.cell?_of_block (w := wr) (a := ⟨B, 2, none⟩) hSq.2).trans q2; have m0 := (World.cell?_of_block (w := wr) (a := ⟨b, o + m * 3, none⟩) hSq.1).trans dm; go_simp <;> first | with_reducible rfl | rfl)
            simp only [Act.put, List.setIfInBounds_toArray, List.set_cons_zero, List.set_cons_succ]
            refine take_on (i := 7) (v := ?_) rfl rfl (by kernel_rfl) (by kernel_rfl) (by kernel_rfl) (fun _ _ _ h => h) rfl ?_ hHeld ?_
            rotate_left
            · (intro wq hSq; have s0 := (World.cell?_of_block (w := wr) (a := ⟨b, o + (m + 1) * 3, none⟩) hSq.1).trans d0; have s1 := (World.cell?_of_block (w := wr) (a := ⟨b, o + (m + 1) * 3 + 1, none⟩) hSq.1).trans d1; have s2 := (World.cell?_of_block (w := wr) (a := ⟨b, o + (m + 1) * 3 + 2, none⟩) hSq.1).trans d2; have r0 := (World.cell?_of_block (w := wr) (a := ⟨B, 0, none⟩) hSq.2).trans q0; have r1 := (World.cell?_of_block (w := wr) (a := ⟨B, 1, none⟩) hSq.2).trans q1; have r2 := (World.cell?_of_block (w := wr) (a := ⟨B, 2, none⟩) hSq.2).trans q2; have m0 := (World.cell?_of_block (w := wr) (a := ⟨b, o + m * 3, none⟩) hSq.1).trans dm; go_simp <;> first | with_reducible rfl | rfl)
            simp only [Act.put, List.setIfInBounds_toArray, List.set_cons_zero, List.set_cons_succ]
            refine take_on (i := 8) (v := ?_) rfl rfl (by kernel_rfl) (by kernel_rfl) (by kernel_rfl) (fun _ _ _ h => h) rfl ?_ hHeld ?_
            rotate_left
            · (intro wq hSq; have s0 := (World.cell?_of_block (w := wr) (a := ⟨b, o + (m + 1) * 3, none⟩) hSq.1).trans d0; have s1 := (World.cell?_of_block (w := wr) (a := ⟨b, o + (m + 1) * 3 + 1, none⟩) hSq.1).trans d1; have s2 := (World.cell?_of_block (w := wr) (a := ⟨b, o + (m + 1) * 3 + 2, none⟩) hSq.1).trans d2; have r0 := (World.cell?_of_block (w := wr) (a := ⟨B, 0, none⟩) hSq.2).trans q0; have r1 := (World.cell?_of_block (w := wr) (a := ⟨B, 1, none⟩) hSq.2).trans q1; have r2 := (World.cell?_of_block (w := wr) (a := ⟨B, 2, none⟩) hSq.2).trans q2; have m0 := (World.cell?_of_block (w := wr) (a := ⟨b, o + m * 3, none⟩) hSq.1).trans dm; go_simp <;> first | with_reducible rfl | rfl)
            simp only [Act.put, List.setIfInBounds_toArray, List.set_cons_zero, List.set_cons_succ]
            refine take_on (i := 9) (v := ?_) rfl rfl (by kernel_rfl) (by kernel_rfl) (by kernel_rfl) (fun _ _ _ h => h) rfl ?_ hHeld ?_
            rotate_left
            · (intro wq hSq; have s0 := (World.cell?_of_block (w := wr) (a := ⟨b, o + (m + 1) * 3, none⟩) hSq.1).trans d0; have s1 := (World.cell?_of_block (w := wr) (a := ⟨b, o + (m + 1) * 3 + 1, none⟩) hSq.1).trans d1; have s2 := (World.cell?_of_block (w := wr) (a := ⟨b, o + (m + 1) * 3 + 2, none⟩) hSq.1).trans d2; have r0 := (World.cell?_of_block (w := wr) (a := ⟨B, 0, none⟩) hSq.2).trans q0; have r1 := (World.cell?_of_block (w := wr) (a := ⟨B, 1, none⟩) hSq.2).trans q1; have r2 := (World.cell?_of_block (w := wr) (a := ⟨B, 2, none⟩) hSq.2).trans q2; have m0 := (World.cell?_of_block (w := wr) (a := ⟨b, o + m * 3, none⟩) hSq.1).trans dm; go_simp <;> first | with_reducible rfl | rfl)
            simp only [Act.put, List.setIfInBounds_toArray, List.set_cons_zero, List.set_cons_succ]
            refine take_on (i := 10) (v := ?_) rfl rfl (by kernel_rfl) (by kernel_rfl) (by kernel_rfl) (fun _ _ _ h => h) rfl ?_ hHeld ?_
            rotate_left
            · (intro wq hSq; have s0 := (World.cell?_of_block (w := wr) (a := ⟨b, o + (m + 1) * 3, none⟩) hSq.1).trans d0; have s1 := (World.cell?_of_block (w := wr) (a := ⟨b, o + (m + 1) * 3 + 1, none⟩) hSq.1).trans d1; have s2 := (World.cell?_of_block (w := wr) (a := ⟨b, o + (m + 1) * 3 + 2, none⟩) hSq.1).trans d2; have r0 := (World.cell?_of_block (w := wr) (a := ⟨B, 0, none⟩) hSq.2).trans q0; have r1 := (World.cell?_of_block (w := wr) (a := ⟨B, 1, none⟩) hSq.2).trans q1; have r2 := (World.cell?_of_block (w := wr) (a := ⟨B, 2, none⟩) hSq.2).trans q2; have m0 := (World.cell?_of_block (w := wr) (a := ⟨b, o + m * 3, none⟩) hSq.1).trans dm; go_simp <;> first | with_reducible rfl | rfl)
            simp only [Act.put, List.setIfInBounds_toArray, List.set_cons_zero, List.set_cons_succ]
            refine take_on (i := 11) (v := ?_) rfl rfl (by kernel_rfl) (by kernel_rfl) (by kernel_rfl) (fun _ _ _ h => h) rfl ?_ hHeld ?_
            rotate_left
            · (intro wq hSq; have s0 := (World.cell?_of_block (w := wr) (a := ⟨b, o + (m + 1) * 3, none⟩) hSq.1).trans d0; have s1 := (World.cell?_of_block (w := wr) (a := ⟨b, o + (m + 1) * 3 + 1, none⟩) hSq.1).trans d1; have s2 := (World.cell?_of_block (w := wr) (a := ⟨b, o + (m + 1) * 3 + 2, none⟩) hSq.1).trans d2; have r0 := (World.cell?_of_block (w := wr) (a := ⟨B, 0, none⟩) hSq.2).trans q0; have r1 := (World.cell?_of_block (w := wr) (a := ⟨B, 1, none⟩) hSq.2).trans q1; have r2 := (World.cell?_of_block (w := wr) (a := ⟨B, 2, none⟩) hSq.2).trans q2; have m0 := (World.cell?_of_block (w := wr) (a := ⟨b, o + m * 3, none⟩) hSq.1).trans dm; go_simp <;> first | with_reducible rfl | rfl)
            simp only [Act.put, List.setIfInBounds_toArray, List.set_cons_zero, List.set_cons_succ]
            refine take_on (i := 12) (v := ?_) rfl rfl (by kernel_rfl) (by kernel_rfl) (by kernel_rfl) (fun _ _ _ h => h) rfl ?_ hHeld ?_
            rotate_left
            · (intro wq hSq; have s0 := (World.cell?_of_block (w := wr) (a := ⟨b, o + (m + 1) * 3, none⟩) hSq.1).trans d0; have s1 := (World.cell?_of_block (w := wr) (a := ⟨b, o + (m + 1) * 3 + 1, none⟩) hSq.1).trans d1; have s2 := (World.cell?_of_block (w := wr) (a := ⟨b, o + (m + 1) * 3 + 2, none⟩) hSq.1).trans d2; have r0 := (World.cell?_of_block (w := wr) (a := ⟨B, 0, none⟩) hSq.2).trans q0; have r1 := (World.cell?_of_block (w := wr) (a := ⟨B, 1, none⟩) hSq.2).trans q1; have r2 := (World.cell?_of_block (w := wr) (a := ⟨B, 2, none⟩) hSq.2).trans q2; have m0 := (World.cell?_of_block (w := wr) (a := ⟨b, o + m * 3, none⟩) hSq.1).trans dm; go_simp <;> first | with_reducible rfl | rfl)
            simp only [Act.put, List.setIfInBounds_toArray, List.set_cons_zero, List.set_cons_succ]
            refine take_on (i := 13) (v := ?_) rfl rfl (by kernel_rfl) (by kernel_rfl) (by kernel_rfl) (fun _ _ _ h => h) rfl ?_ hHeld ?_
            rotate_left
            · (intro wq hSq; have s0 := (World.cell?_of_block (w := wr) (a := ⟨b, o + (m + 1) * 3, none⟩) hSq.1).trans d0; have s1 := (World.cell?_of_block (w := wr) (a := ⟨b, o + (m + 1) * 3 + 1, none⟩) hSq.1).trans d1; have s2 := (World.cell?_of_block (w := wr) (a := ⟨b, o + (m + 1) * 3 + 2, none⟩) hSq.1).trans d2; have r0 := (World.cell?_of_block (w := wr) (a := ⟨B, 0, none⟩) hSq.2).trans q0; have r1 := (World.cell?_of_block (w := wr) (a := ⟨B, 1, none⟩) hSq.2).trans q1; have r2 := (World.cell?_of_block (w := wr) (a := ⟨B, 2, none⟩) hSq.2).trans q2; have m0 := (World.cell?_of_block (w := wr) (a := ⟨b, o + m * 3, none⟩) hSq.1).trans dm; go_simp <;> first | with_reducible rfl | rfl)
            simp only [Act.put, List.setIfInBounds_toArray, List.set_cons_zero, List.set_cons_succ]
            refine take_on (i := 14) (v := ?_) rfl rfl (by kernel_rfl) (by kernel_rfl) (by kernel_rfl) (fun _ _ _ h => h) rfl ?_ hHeld ?_
            rotate_left
            · (intro wq hSq; have s0 := (World.cell?_of_block (w := wr) (a := ⟨b, o + (m + 1) * 3, none⟩) hSq.1).trans d0; have s1 := (World.cell?_of_block (w := wr) (a := ⟨b, o + (m + 1) * 3 + 1, none⟩) hSq.1).trans d1; have s2 := (World.cell?_of_block (w := wr) (a := ⟨b, o + (m + 1) * 3 + 2, none⟩) hSq.1).trans d2; have r0 := (World.cell?_of_block (w := wr) (a := ⟨B, 0, none⟩) hSq.2).trans q0; have r1 := (World.cell?_of_block (w := wr) (a := ⟨B, 1, none⟩) hSq.2).trans q1; have r2 := (World.cell?_of_block (w := wr) (a := ⟨B, 2, none⟩) hSq.2).trans q2; have m0 := (World.cell?_of_block (w := wr) (a := ⟨b, o + m * 3, none⟩) hSq.1).trans dm; go_simp <;> first | with_reducible rfl | rfl)
            simp only [Act.put, List.setIfInBounds_toArray, List.set_cons_zero, List.set_cons_succ]
            refine take_on (i := 15) (v := ?_) rfl rfl (by kernel_rfl) (by kernel_rfl) (by kernel_rfl) (fun _ _ _ h => h) rfl ?_ hHeld ?_
            rotate_left
            · (intro wq hSq; have s0 := (World.cell?_of_block (w := wr) (a := ⟨b, o + (m + 1) * 3, none⟩) hSq.1).trans d0; have s1 := (World.cell?_of_block (w := wr) (a := ⟨b, o + (m + 1) * 3 + 1, none⟩) hSq.1).trans d1; have s2 := (World.cell?_of_block (w := wr) (a := ⟨b, o + (m + 1) * 3 + 2, none⟩) hSq.1).trans d2; have r0 := (World.cell?_of_block (w := wr) (a := ⟨B, 0, none⟩) hSq.2).trans q0; have r1 := (World.cell?_of_block (w := wr) (a := ⟨B, 1, none⟩) hSq.2).trans q1; have r2 := (World.cell?_of_block (w := wr) (a := ⟨B, 2, none⟩) hSq.2).trans q2; have m0 := (World.cell?_of_block (w := wr) (a := ⟨b, o + m * 3, none⟩) hSq.1).trans dm; go_simp <;> first | with_reducible rfl | rfl)
            simp only [Act.put, List.setIfInBounds_toArray, List.set_cons_zero, List.set_cons_succ]
            refine wpAnyH_done (by kernel_rfl) ?_ _
            go_wp2
            go_roundw
            case rel => exact ⟨m + 1 + 1, by omega, by first | go_num | rfl, by rw [HF2.out], hide_it (HW.out.drew)⟩
            case measure => simp [intOf]; omega
    · obtain rfl : k = N := by omega
      have hfin : decide (k - U < k) = bb := by
        rw [HBB.out]
        by_cases e : 0 < U
        · rw [decide_eq_true e, decide_eq_true (by omega)]
        · rw [decide_eq_false e, decide_eq_false (by omega)]
      rw [hfin]
      have hbe : (bb == bb) = true := by simp
      have HY := hide_it (HB5.out.trans (HW.out.mono HB5.out.size))
      clear HR HW
      go_wp2
      go_ret
      exact ⟨rfl, HY.out⟩
end Go.Proofs.Ytncmnhomloanaaa.chainWalks
