/- The walk of the law QueueDoes. -/
import Derived.Test.YtomfhbngpikjeaaQuDo6
namespace Go.Proofs.Ytomfhbngpikjeaa.queueDoes
open Go.RowKit

set_option maxRecDepth 100000 in
set_option maxHeartbeats 2000000 in
theorem walk (most : Int) (_ : -9223372036854775808 ≤ most ∧ most ≤ 9223372036854775807) (a : Option Addr) (n cap : Nat) (A : Nat → Sp) (w : World) (hcame : CameT w a n A) :
    Calls Try.prog 4 #[.int .i64 most, .slice a n cap] w fun e w' => e = .returned (.bool true) ∧ Below w.heap.size w w' := by
  have hrn := rnew_any most w
  have hrow := hcame.row
  have hnl := hcame.size
  clear hcame
  by_cases he : newE most = 0
  · rw [if_pos he, he] at hrn
    obtain ⟨N, rfl, hN⟩ : ∃ N : Nat, most = (N : Int) ∧ N ≤ 65536 := by
      unfold newE at he
      by_cases h1 : most < 0
      · rw [if_pos h1] at he; omega
      · rw [if_neg h1] at he
        by_cases h2 : 65536 < most
        · rw [if_pos h2] at he; omega
        · exact ⟨most.toNat, by omega, by omega⟩
    have hnew := newS_any N
    clear he
    go_enter Try.func4, Try.ntmps4
    go_wp2_with fail
    refine hrn.mono ?_
    rintro e w1 ⟨rfl, hb1⟩
    clear hrn
    go_wp2_with fail
    obtain ⟨W1, hW1⟩ : ∃ W1, W1 = w1.alloc (.cells #[.int .i64 (N : Int), .slice none 0 0] 24) := ⟨_, rfl⟩
    have hA1 : W1.heap[w1.heap.size]? = some (.cells #[.int .i64 (N : Int), .slice none 0 0] 24 (0, 0)) := by rw [hW1]; exact heap_alloc_new _ _
    have hB1 : Below w.heap.size w W1 := by rw [hW1]; exact hb1.alloc hb1.size _
    have hz1 : w1.heap.size < W1.heap.size := by rw [hW1]; simp
    have hs1 := hb1.size
    rw [← hW1]
    obtain ⟨c, hc⟩ : ∃ c, c = w1.heap.size := ⟨_, rfl⟩
    rw [← hc] at hA1 hz1 hs1 ⊢
    clear hW1 hc hb1
    refine (hnew _ hN).mono ?_
    rintro e w2 ⟨rfl, hq2, hb2⟩
    obtain ⟨b, hb⟩ : ∃ b, b = W1.heap.size := ⟨_, rfl⟩
    rw [← hb] at hq2 ⊢
    have hp2 : Pair w w2 b b c N (.slice none 0 0) [] := ⟨⟨hq2, OwS.nil _ _, fun j e => by cases e⟩, (hb2.block c hz1).trans hA1, by omega, by omega, by omega, by omega, hs1⟩
    have hBB : Below w.heap.size w w2 := hB1.trans (hb2.mono hB1.size)
    have HP2 := hide_it hp2
    have HBB := hide_it hBB
    clear hA1 hB1 hq2 hb2 hb hz1 hnew hp2 hBB hs1
    go_wp2_with fail
    refine (fixed_any w2).mono ?_
    rintro e w3 ⟨rfl, hb3⟩
    have hp3 := HP2.out.below hb3
    have hB3 := HBB.out.trans (hb3.mono HBB.out.size)
    have HP3 := hide_it hp3
    have HB3 := hide_it hB3
    clear hp3 hB3 hb3 HP2 HBB
    go_wp2_with fail
    go_loopw [38] (fun i wr => ∃ k : Nat, k ≤ n ∧ i = .int .i64 k ∧ Hid (∃ g v xs, Pair w wr b g c N v xs) ∧ Hid (Below w.heap.size w wr)) (fun i _ => n - (intOf i).toNat)
    case atStart => exact ⟨0, Nat.zero_le _, rfl, ⟨b, _, [], HP3.out⟩, HB3⟩
    case round =>
      obtain ⟨k, hk, rfl, HP, HB⟩ := hrel
      clear HP3 HB3
      obtain ⟨g, v, xs, hp⟩ := HP.out
      obtain ⟨va, vc, rfl, hvr, hvc, _⟩ := hp.both.shape
      obtain ⟨p0, p1, p2, p3⟩ := hp.cells
      have hbl := HB.out
      have hsz := hbl.size
      clear HP
      by_cases hlt : k < n
      · have hki : (k : Int) < (n : Int) := by omega
        have hw1 : IntKind.i64.wrap ((k : Int) + 1) = (k : Int) + 1 := i64_in (by omega) (by omega)
        obtain ⟨rb, ro, rfl, hrl, r0, r1⟩ := hrow.here hlt
        have s0 := (hbl.cell (p := ⟨rb, ro + k * 2, none⟩) hrl).trans r0
        have s1 := (hbl.cell (p := ⟨rb, ro + k * 2 + 1, none⟩) hrl).trans r1
        obtain ⟨K, hK⟩ : ∃ K, K = (A k).k := ⟨_, rfl⟩
        obtain ⟨S, hS⟩ : ∃ S, S = (A k).s := ⟨_, rfl⟩
        rw [← hK] at s0
        rw [← hS] at s1
        obtain ⟨Wr, hWr⟩ : ∃ Wr, Wr = wr.alloc (.cells #[.int .i64 K, .string S] 38) := ⟨_, rfl⟩
        have hbr : Below wr.heap.size wr Wr := by rw [hWr]; exact (Below.refl _ _).alloc (Nat.le_refl _) _
        have hpr := hp.below hbr
        have hblr : Below w.heap.size w Wr := hbl.trans (hbr.mono hsz)
        have hdo := does_any b g N w.heap.size (.slice va xs.length vc) xs K S Wr hpr.both hblr.size
        obtain ⟨ys, hys⟩ : ∃ ys, ys = nxt N xs K S := ⟨_, rfl⟩
        rw [← hys] at hdo
        obtain ⟨L, hL⟩ : ∃ L, L = xs.length := ⟨_, rfl⟩
        obtain ⟨y0, y1, _, _⟩ := hpr.cells
        rw [hWr] at y0 y1
        rw [← hL] at p1 hdo y1
        have HL := hide_it hL
        have HWr := hide_it hWr
        have HPR := hide_it hpr
        have HBR := hide_it hblr
        clear hK hS hys hrow hp hvr hvc hbr hbl hpr hblr r0 r1 HB hL hWr
        go_wp2_with fail
        rw [← HWr.out]
        refine hdo.mono ?_
        rintro e w5 ⟨v5, g5, rfl, hg5, hb5, ho5⟩
        obtain ⟨a5, c5, hv5, _⟩ := hb5.shape
        obtain ⟨M, hM⟩ : ∃ M, M = ys.length := ⟨_, rfl⟩
        rw [← hM] at hv5
        subst hv5
        have hnx := fun o => HPR.out.next HBR.out.size hg5 hb5 ho5 o
        have hbox := (ho5.block c (Array.getElem?_eq_some_iff.1 HPR.out.box).1 HPR.out.cb HPR.out.cg).trans HPR.out.box
        have t0 := cell_of_row _ _ 0 _ _ _ hbox
        have t1 := cell_of_row _ _ 1 _ _ _ hbox
        have t2 := frozen_of_row _ _ 0 _ _ hbox
        have t3 := frozen_of_row _ _ 1 _ _ hbox
        simp only [List.getElem?_toArray, List.getElem?_cons_zero, List.getElem?_cons_succ] at t0 t1
        have hc5 : c < w5.heap.size := (Array.getElem?_eq_some_iff.1 hbox).1
        have hcne : ¬ c = w5.heap.size := by omega
        have HNX := hide_it hnx
        clear hdo hnx hb5 ho5 hg5 hM y0 y1 p0 p1 p2 p3 s0 s1 hbox
        go_wp2
        go_roundw
        case rel =>
          obtain ⟨z1, z2⟩ := HNX.out (.cells #[.int .i64 (N : Int), .slice a5 M c5] 24)
          exact ⟨k + 1, by omega, by go_num, ⟨g5, _, ys, z1⟩, HBR.out.trans z2⟩
        case measure => simp [intOf]; omega
      · have hwa := walkedS_any (some ⟨b, 0, none⟩) g N xs wr (.inr ⟨b, rfl, hp.both.qu⟩)
        obtain ⟨L, hL⟩ : ∃ L, L = xs.length := ⟨_, rfl⟩
        have hxl := hp.both.qu.len
        have hpc := hp.bge
        have hcl : c < wr.heap.size := (Array.getElem?_eq_some_iff.1 hp.box).1
        have HV := hide_it hvr
        have HPP := hide_it hp
        rw [← hL] at p1
        have HL := hide_it hL
        clear hp hvr hL hpc hrow
        go_wp2_with fail
        refine hwa.mono ?_
        rintro e w5 ⟨v5, rfl, how5, hb5⟩
        obtain ⟨a5, c5, hv5, hr5, _, _⟩ := how5.row
        rw [← HL.out] at hv5
        subst hv5
        have heq : Calls Try.prog 17 #[.slice a5 L c5, .slice va L vc] (w5.drewN 1) fun e w' => e = .returned (.bool true) ∧ Below w5.heap.size w5 w' := by
          rw [HL.out]
          exact (equalS_any a5 va c5 vc xs xs (w5.drewN 1) (hr5.below (below_drewN (Below.refl _ _) 1)) ((HV.out.below hb5).below (below_drewN (Below.refl _ _) 1)) (by omega)).mono fun e w' ⟨h1, h2⟩ => ⟨by rw [h1]; simp, (below_drewN (Below.refl _ _) 1).trans h2⟩
        have hs5 := hb5.size
        have k1 := (hb5.cell (p := ⟨c, 1, none⟩) hcl).trans p1
        have hle : ∀ w6, Below w5.heap.size w5 w6 → Calls Try.prog 14 #[.pointer (some ⟨b, 0, none⟩)] w6 fun e w' => e = .returned (.int .i64 (L : Int)) ∧ w' = w6 := fun w6 h6 => by
          rw [HL.out]
          exact lenS_any b g N xs w6 ((HPP.out.both.qu.below hb5).below h6)
        have HB5 := hide_it hb5
        clear hwa hb5 hr5 how5 p0 p1 p2 p3
        go_wp2_with fail
        refine wp_region_held_drew (S := (fun w' => w'.heap[c]? = w5.heap[c]?)) (by kernel_rfl) ?_ (fun hHeld => ?_)
        · rfl
        refine take_on (i := 0) (v := ?_) rfl rfl (by kernel_rfl) (by kernel_rfl) (by kernel_rfl) (fun _ _ _ h => h) rfl ?_ hHeld ?_
        rotate_left
        · (intro wq hSq; have q1 := (World.cell?_of_block (w := w5) (a := ⟨c, 1, none⟩) hSq).trans k1; go_simp <;> first | with_reducible rfl | rfl)
        simp only [Act.put, List.setIfInBounds_toArray, List.set_cons_zero, List.set_cons_succ]
        refine take_on (i := 1) (v := ?_) rfl rfl (by kernel_rfl) (by kernel_rfl) (by kernel_rfl) (fun _ _ _ h => h) rfl ?_ hHeld ?_
        rotate_left
        · (intro wq hSq; have q1 := (World.cell?_of_block (w := w5) (a := ⟨c, 1, none⟩) hSq).trans k1; go_simp <;> first | with_reducible rfl | rfl)
        simp only [Act.put, List.setIfInBounds_toArray, List.set_cons_zero, List.set_cons_succ]
        refine take_on (i := 2) (v := ?_) rfl rfl (by kernel_rfl) (by kernel_rfl) (by kernel_rfl) (fun _ _ _ h => h) rfl ?_ hHeld ?_
        rotate_left
        · (intro wq hSq; have q1 := (World.cell?_of_block (w := w5) (a := ⟨c, 1, none⟩) hSq).trans k1; go_simp <;> first | with_reducible rfl | rfl)
        simp only [Act.put, List.setIfInBounds_toArray, List.set_cons_zero, List.set_cons_succ]
        refine take_on (i := 3) (v := ?_) rfl rfl (by kernel_rfl) (by kernel_rfl) (by kernel_rfl) (fun _ _ _ h => h) rfl ?_ hHeld ?_
        rotate_left
        · (intro wq hSq; have q1 := (World.cell?_of_block (w := w5) (a := ⟨c, 1, none⟩) hSq).trans k1; go_simp <;> first | with_reducible rfl | rfl)
        simp only [Act.put, List.setIfInBounds_toArray, List.set_cons_zero, List.set_cons_succ]
        refine take_on (i := 4) (v := ?_) rfl rfl (by kernel_rfl) (by kernel_rfl) (by kernel_rfl) (fun _ _ _ h => h) rfl ?_ hHeld ?_
        rotate_left
        · (intro wq hSq; have q1 := (World.cell?_of_block (w := w5) (a := ⟨c, 1, none⟩) hSq).trans k1; go_simp <;> first | with_reducible rfl | rfl)
        simp only [Act.put, List.setIfInBounds_toArray, List.set_cons_zero, List.set_cons_succ]
        refine take_one (i := 5) rfl (by kernel_rfl) (fun K hK => ?_)
        go_simp
        refine heq.mono ?_; rintro e w6 ⟨rfl, hb6⟩; have hle6 := hle w6 hb6; have HB6 := hide_it hb6; clear hb6 hle heq
        try go_wp2_with fail
        refine hK.out _ _ ?_ (fun hHeld => ?_)
        · exact HB6.out.block _ (by omega)
        clear hK K
        try simp only [Act.put, List.setIfInBounds_toArray, List.set_cons_zero, List.set_cons_succ]
        refine take_on (i := 6) (v := ?_) rfl rfl (by kernel_rfl) (by kernel_rfl) (by kernel_rfl) (fun _ _ _ h => h) rfl ?_ hHeld ?_
        rotate_left
        · (intro wq hSq; have q1 := (World.cell?_of_block (w := w5) (a := ⟨c, 1, none⟩) hSq).trans k1; go_simp <;> first | with_reducible rfl | rfl)
        simp only [Act.put, List.setIfInBounds_toArray, List.set_cons_zero, List.set_cons_succ]
        refine take_on (i := 7) (v := ?_) rfl rfl (by kernel_rfl) (by kernel_rfl) (by kernel_rfl) (fun _ _ _ h => h) rfl ?_ hHeld ?_
        rotate_left
        · (intro wq hSq; have q1 := (World.cell?_of_block (w := w5) (a := ⟨c, 1, none⟩) hSq).trans k1; go_simp <;> first | with_reducible rfl | rfl)
        simp only [Act.put, List.setIfInBounds_toArray, List.set_cons_zero, List.set_cons_succ]
        refine take_on (i := 8) (v := ?_) rfl rfl (by kernel_rfl) (by kernel_rfl) (by kernel_rfl) (fun _ _ _ h => h) rfl ?_ hHeld ?_
        rotate_left
        · (intro wq hSq; have q1 := (World.cell?_of_block (w := w5) (a := ⟨c, 1, none⟩) hSq).trans k1; go_simp <;> first | with_reducible rfl | rfl)
        simp only [Act.put, List.setIfInBounds_toArray, List.set_cons_zero, List.set_cons_succ]
        refine take_on (i := 10) (v := ?_) rfl rfl (by kernel_rfl) (by kernel_rfl) (by kernel_rfl) (fun _ _ _ h => h) rfl ?_ hHeld ?_
        rotate_left
        · (intro wq hSq; have q1 := (World.cell?_of_block (w := w5) (a := ⟨c, 1, none⟩) hSq).trans k1; go_simp <;> first | with_reducible rfl | rfl)
        simp only [Act.put, List.setIfInBounds_toArray, List.set_cons_zero, List.set_cons_succ]
        refine take_on (i := 11) (v := ?_) rfl rfl (by kernel_rfl) (by kernel_rfl) (by kernel_rfl) (fun _ _ _ h => h) rfl ?_ hHeld ?_
        rotate_left
        · (intro wq hSq; have q1 := (World.cell?_of_block (w := w5) (a := ⟨c, 1, none⟩) hSq).trans k1; go_simp <;> first | with_reducible rfl | rfl)
        simp only [Act.put, List.setIfInBounds_toArray, List.set_cons_zero, List.set_cons_succ]
        refine take_on (i := 12) (v := ?_) rfl rfl (by kernel_rfl) (by kernel_rfl) (by kernel_rfl) (fun _ _ _ h => h) rfl ?_ hHeld ?_
        rotate_left
        · (intro wq hSq; have q1 := (World.cell?_of_block (w := w5) (a := ⟨c, 1, none⟩) hSq).trans k1; go_simp <;> first | with_reducible rfl | rfl)
        simp only [Act.put, List.setIfInBounds_toArray, List.set_cons_zero, List.set_cons_succ]
        refine take_one (i := 9) rfl (by kernel_rfl) (fun K hK => ?_)
        go_simp
        refine hle6.mono ?_; rintro e w7 ⟨rfl, hq⟩; have hq2 := hq.symm; subst hq2; clear hq
        try go_wp2_with fail
        refine hK.out _ _ ?_ (fun hHeld => ?_)
        · exact hHeld
        clear hK K
        try simp only [Act.put, List.setIfInBounds_toArray, List.set_cons_zero, List.set_cons_succ]
        refine take_on (i := 13) (v := ?_) rfl rfl (by kernel_rfl) (by kernel_rfl) (by kernel_rfl) (fun _ _ _ h => h) rfl ?_ hHeld ?_
        rotate_left
        · (intro wq hSq; have q1 := (World.cell?_of_block (w := w5) (a := ⟨c, 1, none⟩) hSq).trans k1; go_simp <;> first | with_reducible rfl | rfl)
        simp only [Act.put, List.setIfInBounds_toArray, List.set_cons_zero, List.set_cons_succ]
        refine take_on (i := 14) (v := ?_) rfl rfl (by kernel_rfl) (by kernel_rfl) (by kernel_rfl) (fun _ _ _ h => h) rfl ?_ hHeld ?_
        rotate_left
        · (intro wq hSq; have q1 := (World.cell?_of_block (w := w5) (a := ⟨c, 1, none⟩) hSq).trans k1; go_simp <;> first | with_reducible rfl | rfl)
        simp only [Act.put, List.setIfInBounds_toArray, List.set_cons_zero, List.set_cons_succ]
        refine take_on (i := 15) (v := ?_) rfl rfl (by kernel_rfl) (by kernel_rfl) (by kernel_rfl) (fun _ _ _ h => h) rfl ?_ hHeld ?_
        rotate_left
        · (intro wq hSq; have q1 := (World.cell?_of_block (w := w5) (a := ⟨c, 1, none⟩) hSq).trans k1; go_simp <;> first | with_reducible rfl | rfl)
        simp only [Act.put, List.setIfInBounds_toArray, List.set_cons_zero, List.set_cons_succ]
        refine wpAnyH_done (by kernel_rfl) ?_ _
        go_wp2
        go_ret
        refine ⟨rfl, ?_⟩
        have z1 := hbl.trans (HB5.out.mono hsz)
        exact z1.trans (HB6.out.mono z1.size)
  · rw [if_neg he] at hrn
    have hnew := newS_no most
    obtain ⟨E, hE⟩ : ∃ E, E = newE most := ⟨_, rfl⟩
    rw [← hE] at hrn he hnew
    clear hE hrow
    go_enter Try.func4, Try.ntmps4
    go_wp2_with fail
    refine hrn.mono ?_
    rintro e w1 ⟨rfl, hb1⟩
    clear hrn
    go_wp2_with fail
    refine (hnew _ he).mono ?_
    rintro e w2 ⟨rfl, hq⟩
    have hq2 := hq.symm
    subst hq2
    clear hq hnew
    have HB1 := hide_it hb1
    clear hb1
    go_wp2_with fail
    refine (fixed_any _).mono ?_
    rintro e w3 ⟨rfl, hb3⟩
    have HB3 := hide_it hb3
    clear hb3
    go_wp2
    go_ret
    have z1 := HB1.out
    have z2 := z1.alloc z1.size (.cells #[.int .i64 0, .slice none 0 0] 24)
    exact ⟨rfl, z2.trans (HB3.out.mono z2.size)⟩

end Go.Proofs.Ytomfhbngpikjeaa.queueDoes
