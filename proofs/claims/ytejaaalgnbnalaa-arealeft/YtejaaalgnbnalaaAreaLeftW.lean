/- The law on what a loss of power leaves, walked. -/
import Derived.Test.YtejaaalgnbnalaaAreaLeftG
namespace Go.Proofs.Ytejaaalgnbnalaa.areaLeft
open Go.RowKit

theorem wp_of_eq {c d : Code} {Q : Exit → Act → World → Prop} {a : Act} {w : World} (h : c = d) (hw : Code.wp Try.prog d Q a w) : Code.wp Try.prog c Q a w := by subst h; exact hw

set_option maxRecDepth 100000 in
set_option maxHeartbeats 12800000 in
theorem walk (a : Option Addr) (n c : Nat) (A : Nat → Stp) (a1 : Option Addr) (c1 : Nat) (zs : List Nat) (K : Int) (_hK : -9223372036854775808 ≤ K ∧ K ≤ 9223372036854775807) (t : Nat) (w : World) (hs : CameStp w a n A) (hz : Came8 w a1 c1 zs) (ht : t < 256) :
    Calls Try.prog 3 #[.slice a n c, .slice a1 zs.length c1, .int .i64 K, .int .u8 (t : Int)] w fun e w' => e = .returned (.bool true) ∧ Below w.heap.size w w' := by
  obtain ⟨W0, hW0⟩ : ∃ W0, W0 = w.alloc (.cells #[.slice a n c] 22) := ⟨_, rfl⟩
  have hb0 : Below w.heap.size w W0 := by rw [hW0]; exact (Below.refl _ _).alloc (Nat.le_refl _) _
  have hq0 : W0.heap[w.heap.size]? = some (.cells #[.slice a n c] 22 (0, 0)) := by rw [hW0]; exact heap_alloc_new w _
  have hva := vast_any w.heap.size 1 1 (fun _ => ⟨a, n, c, A⟩) W0 (by omega) (Array.getElem?_eq_some_iff.1 hq0).1 (fun i hi => by
    obtain rfl : i = 0 := by omega
    exact cell_of_row _ _ _ _ _ _ hq0) (fun i hi => hs.below hb0)
  have httl : ttl (fun _ => ⟨a, n, c, A⟩) 1 = tot A n := by simp [ttl]
  rw [httl] at hva
  have hzl := hz.size
  go_enter Try.func3, Try.ntmps3
  go_wp2_with fail
  rw [← hW0]
  clear hW0 hq0 httl
  refine hva.mono ?_
  rintro e w1 ⟨⟨b, rfl, hT⟩, hb1⟩
  have hbw1 := hb0.trans (hb1.mono hb0.size)
  clear hva
  cases b with
  | true =>
    clear hT hs hz
    go_wp2_with fail
    go_ret
    exact ⟨rfl, hbw1⟩
  | false =>
    replace hT := hide_it (hT rfl)
    have hpl := played_any a n c A w1 (hs.below hbw1) (by have := hT.out; omega)
    have hpl2 := fun W hb => played_any a n c A W (hs.below hb) (by have := hT.out; omega)
    have hI := runA_inv A n
    obtain ⟨x, hx⟩ : ∃ x, x = runA A n := ⟨_, rfl⟩
    rw [← hx] at hpl hI hpl2
    obtain ⟨B, bs0, k⟩ := x
    obtain ⟨hI1, hI2, hI3⟩ := hI
    simp only at hI1 hI2 hI3
    clear hx hs
    go_wp2_with fail
    refine hpl.mono ?_
    rintro e w2 ⟨⟨p1, rfl, hF2⟩, hb2⟩
    have hbw2 := hbw1.trans (hb2.mono hbw1.size)
    have hp2 := hpl2 w2 hbw2
    clear hpl hpl2
    go_wp2_with fail
    refine hp2.mono ?_
    rintro e w3 ⟨⟨p2, rfl, hF3⟩, hb3⟩
    have hA3 := Ab.two hbw2 hF2 hbw1.size hb3 hF3
    have haw := awake_any w3
    clear hp2 hF2 hF3
    go_wp2_with fail
    refine haw.mono ?_
    rintro e w4 ⟨rfl, hb4⟩
    have hA4 := hA3.below hb4
    clear haw hA3
    have hbw4 := hA4.bel
    obtain ⟨x1, x2, y4, hrun, hr4, hn4, hc4⟩ := copy_run (w := w4) 23 a1 c1 zs (hz.row.below hbw4) hz.none (by omega)
    have hap := (hA4.below hc4).append x1 x2 zs hr4 hz.all hn4 (by have := hT.out; omega) (by have := hT.out; omega)
    go_wp2_with (at_builtin; refine wpList_append_run rfl _ _ _ rfl _ _ _ _ rfl rfl hrun ?_)
    refine hap.mono ?_
    rintro e w5 ⟨rfl, hA5, hc5⟩
    clear hap hrun hr4
    have hbw5 := hA5.bel
    obtain ⟨x3, x4, y5, hrun, hr5, hn5, hcp5⟩ := copy_run (w := w5) 23 a1 c1 zs (hz.row.below hbw5) hz.none (by omega)
    have hap := (hA5.below hcp5).swap.append x3 x4 zs hr5 hz.all hn5 (by have := hT.out; omega) (by have := hT.out; omega)
    go_wp2_with (at_builtin; refine wpList_append_run rfl _ _ _ rfl _ _ _ _ rfl rfl hrun ?_)
    refine hap.mono ?_
    rintro e w6 ⟨rfl, hA6', hc6⟩
    have hA6 := hA6'.swap
    clear hap hrun hr5 hA6' hc6 hA5 hc5 hA4 hbw5 hbw4 hbw2 hbw1 hb0 hb1 hb2 hb3 hb4 hc4 hcp5
    obtain ⟨U6, hU6⟩ : ∃ U, U = upto (upto (fun j => w1.heap.size ≤ j ∧ j < w3.heap.size) y4 w5) y5 w6 := ⟨_, rfl⟩
    rw [← hU6] at hA6
    clear hU6
    have hbl : (bs0 ++ zs).length = bs0.length + zs.length := List.length_append
    obtain ⟨bs, hbs⟩ : ∃ bs, bs = bs0 ++ zs := ⟨_, rfl⟩
    rw [← hbs] at hA6 hbl
    have hwl := hide_it (show B + bs.length ≤ 4611686018427387904 + 1073741824 + 140737488351232 ∧ k ≤ bs.length by have := hT.out; omega)
    clear hbs hbl hI1 hI2 hI3 hz hzl hT
    have hwh := hA6.whole
    go_wp2_with fail
    refine hwh.mono ?_
    rintro e w7 ⟨⟨r1, rfl, hr1⟩, hb7⟩
    have hS1 := Sl.new hr1 hA6.lt
    have hA7 := hA6.below hb7
    obtain ⟨ra, rc, e1, _, hrcap, _⟩ := hS1.row
    subst e1
    have hbo := hA7.bounds
    clear hwh hr1 hA6
    obtain ⟨G1, hG1⟩ : ∃ G, G = B + k := ⟨_, rfl⟩
    obtain ⟨G2, hG2⟩ : ∃ G, G = B + bs.length := ⟨_, rfl⟩
    rw [← hG1, ← hG2] at hbo
    replace hG1 := hide_it hG1
    replace hG2 := hide_it hG2
    replace hS1 := hide_it hS1
    replace hA7 := hide_it hA7
    go_wp2_with fail
    refine hbo.mono ?_
    rintro e w8 ⟨rfl, hb8⟩
    have hA8 := hA7.out.below hb8
    have hS8 := hS1.out.below hb8
    have him := hA8.image
    clear hbo hA7 hS1
    go_wp2_with fail
    refine him.mono ?_
    rintro e w9 ⟨⟨r2, rfl, hr2⟩, hb9⟩
    obtain ⟨ia, ic, e2, _⟩ := hr2.row
    have hkl : (bs.take k).length = k := by have := hwl.out; simp; omega
    rw [hkl] at e2
    subst e2
    have hA9 := hA8.below hb9
    have hS9 := hS8.below hb9
    have hI9 := Sl.new hr2 hA8.lt
    obtain ⟨W, hW⟩ : ∃ W, W = w9.alloc (.cells #[.int .i64 (B : Int), .slice ia k ic] 35) := ⟨_, rfl⟩
    have hbW : Below w9.heap.size w9 W := by rw [hW]; exact (Below.refl _ _).alloc (Nat.le_refl _) _
    have hSp : Spn W U6 w9.heap.size (B : Int) (.slice ia k ic) := ⟨by rw [hW]; exact heap_alloc_new w9 _, fun h => by have := hA9.lt _ h; omega⟩
    have hAW := hA9.below hbW
    have hSW := hS9.below hbW
    have hIW := hI9.below hbW
    obtain ⟨g, hg⟩ : ∃ g, g = w9.heap.size := ⟨_, rfl⟩
    rw [← hg] at hSp
    have hgl := hSp.lt
    have hgf := hSp.far
    obtain ⟨g0, g1⟩ := hSp.cells
    have hw1 : IntKind.i64.wrap ((G1 : Int) - (B : Int)) = (k : Int) := by have := hwl.out; have := hG1.out; rw [IntKind.wrap_i64]; omega
    have hd1 : ¬ G1 < B := by have := hG1.out; omega
    have hd2 : ¬ bs.length < k := by have := hwl.out; omega
    have hkr : k ≤ rc := by have := hwl.out; omega
    obtain ⟨q1, q2, q3, q4, _, q6⟩ := hSW.row
    cases q3
    have hcut := OwB.take hSW.own (show k ≤ bs.length by have := hwl.out; omega)
    obtain ⟨j1, j2, j3, j4, _, _, j6⟩ := hcut.row
    rw [hkl] at j3
    cases j3
    obtain ⟨l1, l2, l3, l4, _, l6⟩ := hIW.row
    rw [hkl] at l3
    cases l3
    have hsm := same_any ia ra ic rc (bs.take k) k hkl W.drew (l4.below (Below.refl _ _).drew) (j4.below (Below.refl _ _).drew) l6 j6
    obtain ⟨cc, hcc⟩ : ∃ cc, cc = min K.toNat (bs.length - k) := ⟨_, rfl⟩
    have hcr := (hAW.below (Below.refl _ _).drew).crash K t ht cc hcc
    replace hcc := hide_it hcc
    replace hAW := hide_it hAW
    replace hSW := hide_it hSW
    replace hIW := hide_it hIW
    clear him hr2 hA8 hA9 hS8 hS9 hI9 q4 q6 hcut j4 j6 l4 l6 hb7 hb8 hb9
    go_wp2_with fail
    rw [← hW, ← hg]
    clear hW hg hbW
    refine wp_region_held_drew (S := (fun w' => w'.heap[g]? = W.heap[g]?)) (by kernel_rfl) ?_ (fun hHeld => ?_)
    · rfl
    refine take_on (i := 0) (v := ?_) rfl rfl (by kernel_rfl) (by kernel_rfl) (by kernel_rfl) (fun _ _ _ h => h) rfl ?_ hHeld ?_
    rotate_left
    · (intro wq hSq; have u0 := (World.cell?_of_block (w := W) (a := ⟨g, 0, none⟩) hSq).trans g0; have u1 := (World.cell?_of_block (w := W) (a := ⟨g, 1, none⟩) hSq).trans g1; go_simp <;> first | with_reducible rfl | rfl)
    simp only [Act.put, List.setIfInBounds_toArray, List.set_cons_zero, List.set_cons_succ]
    refine take_on (i := 1) (v := ?_) rfl rfl (by kernel_rfl) (by kernel_rfl) (by kernel_rfl) (fun _ _ _ h => h) rfl ?_ hHeld ?_
    rotate_left
    · (intro wq hSq; have u0 := (World.cell?_of_block (w := W) (a := ⟨g, 0, none⟩) hSq).trans g0; have u1 := (World.cell?_of_block (w := W) (a := ⟨g, 1, none⟩) hSq).trans g1; go_simp <;> first | with_reducible rfl | rfl)
    simp only [Act.put, List.setIfInBounds_toArray, List.set_cons_zero, List.set_cons_succ]
    refine take_on (i := 2) (v := ?_) rfl rfl (by kernel_rfl) (by kernel_rfl) (by kernel_rfl) (fun _ _ _ h => h) rfl ?_ hHeld ?_
    rotate_left
    · (intro wq hSq; have u0 := (World.cell?_of_block (w := W) (a := ⟨g, 0, none⟩) hSq).trans g0; have u1 := (World.cell?_of_block (w := W) (a := ⟨g, 1, none⟩) hSq).trans g1; go_simp <;> first | with_reducible rfl | rfl)
    simp only [Act.put, List.setIfInBounds_toArray, List.set_cons_zero, List.set_cons_succ]
    refine take_on (i := 3) (v := ?_) rfl rfl (by kernel_rfl) (by kernel_rfl) (by kernel_rfl) (fun _ _ _ h => h) rfl ?_ hHeld ?_
    rotate_left
    · (intro wq hSq; have u0 := (World.cell?_of_block (w := W) (a := ⟨g, 0, none⟩) hSq).trans g0; have u1 := (World.cell?_of_block (w := W) (a := ⟨g, 1, none⟩) hSq).trans g1; go_simp <;> first | with_reducible rfl | rfl)
    simp only [Act.put, List.setIfInBounds_toArray, List.set_cons_zero, List.set_cons_succ]
    refine take_on (i := 4) (v := ?_) rfl rfl (by kernel_rfl) (by kernel_rfl) (by kernel_rfl) (fun _ _ _ h => h) rfl ?_ hHeld ?_
    rotate_left
    · (intro wq hSq; have u0 := (World.cell?_of_block (w := W) (a := ⟨g, 0, none⟩) hSq).trans g0; have u1 := (World.cell?_of_block (w := W) (a := ⟨g, 1, none⟩) hSq).trans g1; go_simp <;> first | with_reducible rfl | rfl)
    simp only [Act.put, List.setIfInBounds_toArray, List.set_cons_zero, List.set_cons_succ]
    refine take_on (i := 5) (v := ?_) rfl rfl (by kernel_rfl) (by kernel_rfl) (by kernel_rfl) (fun _ _ _ h => h) rfl ?_ hHeld ?_
    rotate_left
    · (intro wq hSq; have u0 := (World.cell?_of_block (w := W) (a := ⟨g, 0, none⟩) hSq).trans g0; have u1 := (World.cell?_of_block (w := W) (a := ⟨g, 1, none⟩) hSq).trans g1; go_simp <;> first | with_reducible rfl | rfl)
    simp only [Act.put, List.setIfInBounds_toArray, List.set_cons_zero, List.set_cons_succ]
    refine take_on (i := 6) (v := ?_) rfl rfl (by kernel_rfl) (by kernel_rfl) (by kernel_rfl) (fun _ _ _ h => h) rfl ?_ hHeld ?_
    rotate_left
    · (intro wq hSq; have u0 := (World.cell?_of_block (w := W) (a := ⟨g, 0, none⟩) hSq).trans g0; have u1 := (World.cell?_of_block (w := W) (a := ⟨g, 1, none⟩) hSq).trans g1; go_simp <;> first | with_reducible rfl | rfl)
    simp only [Act.put, List.setIfInBounds_toArray, List.set_cons_zero, List.set_cons_succ]
    refine take_on (i := 7) (v := ?_) rfl rfl (by kernel_rfl) (by kernel_rfl) (by kernel_rfl) (fun _ _ _ h => h) rfl ?_ hHeld ?_
    rotate_left
    · (intro wq hSq; have u0 := (World.cell?_of_block (w := W) (a := ⟨g, 0, none⟩) hSq).trans g0; have u1 := (World.cell?_of_block (w := W) (a := ⟨g, 1, none⟩) hSq).trans g1; go_simp <;> first | with_reducible rfl | rfl)
    simp only [Act.put, List.setIfInBounds_toArray, List.set_cons_zero, List.set_cons_succ]
    refine take_on (i := 8) (v := ?_) rfl rfl (by kernel_rfl) (by kernel_rfl) (by kernel_rfl) (fun _ _ _ h => h) rfl ?_ hHeld ?_
    rotate_left
    · (intro wq hSq; have u0 := (World.cell?_of_block (w := W) (a := ⟨g, 0, none⟩) hSq).trans g0; have u1 := (World.cell?_of_block (w := W) (a := ⟨g, 1, none⟩) hSq).trans g1; go_simp <;> first | with_reducible rfl | rfl)
    simp only [Act.put, List.setIfInBounds_toArray, List.set_cons_zero, List.set_cons_succ]
    refine take_on (i := 9) (v := ?_) rfl rfl (by kernel_rfl) (by kernel_rfl) (by kernel_rfl) (fun _ _ _ h => h) rfl ?_ hHeld ?_
    rotate_left
    · (intro wq hSq; have u0 := (World.cell?_of_block (w := W) (a := ⟨g, 0, none⟩) hSq).trans g0; have u1 := (World.cell?_of_block (w := W) (a := ⟨g, 1, none⟩) hSq).trans g1; go_simp <;> first | with_reducible rfl | rfl)
    simp only [Act.put, List.setIfInBounds_toArray, List.set_cons_zero, List.set_cons_succ]
    refine take_on (i := 10) (v := ?_) rfl rfl (by kernel_rfl) (by kernel_rfl) (by kernel_rfl) (fun _ _ _ h => h) rfl ?_ hHeld ?_
    rotate_left
    · (intro wq hSq; have u0 := (World.cell?_of_block (w := W) (a := ⟨g, 0, none⟩) hSq).trans g0; have u1 := (World.cell?_of_block (w := W) (a := ⟨g, 1, none⟩) hSq).trans g1; go_simp <;> first | with_reducible rfl | rfl)
    simp only [Act.put, List.setIfInBounds_toArray, List.set_cons_zero, List.set_cons_succ]
    refine take_on (i := 11) (v := ?_) rfl rfl (by kernel_rfl) (by kernel_rfl) (by kernel_rfl) (fun _ _ _ h => h) rfl ?_ hHeld ?_
    rotate_left
    · (intro wq hSq; have u0 := (World.cell?_of_block (w := W) (a := ⟨g, 0, none⟩) hSq).trans g0; have u1 := (World.cell?_of_block (w := W) (a := ⟨g, 1, none⟩) hSq).trans g1; go_simp <;> first | with_reducible rfl | rfl)
    simp only [Act.put, List.setIfInBounds_toArray, List.set_cons_zero, List.set_cons_succ]
    refine take_on (i := 12) (v := ?_) rfl rfl (by kernel_rfl) (by kernel_rfl) (by kernel_rfl) (fun _ _ _ h => h) rfl ?_ hHeld ?_
    rotate_left
    · (intro wq hSq; have u0 := (World.cell?_of_block (w := W) (a := ⟨g, 0, none⟩) hSq).trans g0; have u1 := (World.cell?_of_block (w := W) (a := ⟨g, 1, none⟩) hSq).trans g1; go_simp <;> first | with_reducible rfl | rfl)
    simp only [Act.put, List.setIfInBounds_toArray, List.set_cons_zero, List.set_cons_succ]
    refine take_on (i := 13) (v := ?_) rfl rfl (by kernel_rfl) (by kernel_rfl) (by kernel_rfl) (fun _ _ _ h => h) rfl ?_ hHeld ?_
    rotate_left
    · (intro wq hSq; have u0 := (World.cell?_of_block (w := W) (a := ⟨g, 0, none⟩) hSq).trans g0; have u1 := (World.cell?_of_block (w := W) (a := ⟨g, 1, none⟩) hSq).trans g1; go_simp <;> first | with_reducible rfl | rfl)
    simp only [Act.put, List.setIfInBounds_toArray, List.set_cons_zero, List.set_cons_succ]
    refine take_on (i := 14) (v := ?_) rfl rfl (by kernel_rfl) (by kernel_rfl) (by kernel_rfl) (fun _ _ _ h => h) rfl ?_ hHeld ?_
    rotate_left
    · (intro wq hSq; have u0 := (World.cell?_of_block (w := W) (a := ⟨g, 0, none⟩) hSq).trans g0; have u1 := (World.cell?_of_block (w := W) (a := ⟨g, 1, none⟩) hSq).trans g1; go_simp <;> first | with_reducible rfl | rfl)
    simp only [Act.put, List.setIfInBounds_toArray, List.set_cons_zero, List.set_cons_succ]
    refine take_on (i := 15) (v := ?_) rfl rfl (by kernel_rfl) (by kernel_rfl) (by kernel_rfl) (fun _ _ _ h => h) rfl ?_ hHeld ?_
    rotate_left
    · (intro wq hSq; have u0 := (World.cell?_of_block (w := W) (a := ⟨g, 0, none⟩) hSq).trans g0; have u1 := (World.cell?_of_block (w := W) (a := ⟨g, 1, none⟩) hSq).trans g1; go_simp <;> first | with_reducible rfl | rfl)
    simp only [Act.put, List.setIfInBounds_toArray, List.set_cons_zero, List.set_cons_succ]
    refine take_one (i := 16) rfl (by kernel_rfl) (fun K hK => ?_)
    go_simp
    refine hsm.mono ?_; rintro e y1 ⟨rfl, hq⟩; obtain rfl := hq
    try go_wp2_with fail
    refine hK.out _ _ ?_ (fun hHeld => ?_)
    · exact hHeld
    clear hK K
    try simp only [Act.put, List.setIfInBounds_toArray, List.set_cons_zero, List.set_cons_succ]
    refine take_on (i := 17) (v := ?_) rfl rfl (by kernel_rfl) (by kernel_rfl) (by kernel_rfl) (fun _ _ _ h => h) rfl ?_ hHeld ?_
    rotate_left
    · (intro wq hSq; have u0 := (World.cell?_of_block (w := W) (a := ⟨g, 0, none⟩) hSq).trans g0; have u1 := (World.cell?_of_block (w := W) (a := ⟨g, 1, none⟩) hSq).trans g1; go_simp <;> first | with_reducible rfl | rfl)
    simp only [Act.put, List.setIfInBounds_toArray, List.set_cons_zero, List.set_cons_succ]
    refine take_on (i := 18) (v := ?_) rfl rfl (by kernel_rfl) (by kernel_rfl) (by kernel_rfl) (fun _ _ _ h => h) rfl ?_ hHeld ?_
    rotate_left
    · (intro wq hSq; have u0 := (World.cell?_of_block (w := W) (a := ⟨g, 0, none⟩) hSq).trans g0; have u1 := (World.cell?_of_block (w := W) (a := ⟨g, 1, none⟩) hSq).trans g1; go_simp <;> first | with_reducible rfl | rfl)
    simp only [Act.put, List.setIfInBounds_toArray, List.set_cons_zero, List.set_cons_succ]
    refine take_on (i := 19) (v := ?_) rfl rfl (by kernel_rfl) (by kernel_rfl) (by kernel_rfl) (fun _ _ _ h => h) rfl ?_ hHeld ?_
    rotate_left
    · (intro wq hSq; have u0 := (World.cell?_of_block (w := W) (a := ⟨g, 0, none⟩) hSq).trans g0; have u1 := (World.cell?_of_block (w := W) (a := ⟨g, 1, none⟩) hSq).trans g1; go_simp <;> first | with_reducible rfl | rfl)
    simp only [Act.put, List.setIfInBounds_toArray, List.set_cons_zero, List.set_cons_succ]
    refine take_on (i := 20) (v := ?_) rfl rfl (by kernel_rfl) (by kernel_rfl) (by kernel_rfl) (fun _ _ _ h => h) rfl ?_ hHeld ?_
    rotate_left
    · (intro wq hSq; have u0 := (World.cell?_of_block (w := W) (a := ⟨g, 0, none⟩) hSq).trans g0; have u1 := (World.cell?_of_block (w := W) (a := ⟨g, 1, none⟩) hSq).trans g1; go_simp <;> first | with_reducible rfl | rfl)
    simp only [Act.put, List.setIfInBounds_toArray, List.set_cons_zero, List.set_cons_succ]
    refine take_on (i := 21) (v := ?_) rfl rfl (by kernel_rfl) (by kernel_rfl) (by kernel_rfl) (fun _ _ _ h => h) rfl ?_ hHeld ?_
    rotate_left
    · (intro wq hSq; have u0 := (World.cell?_of_block (w := W) (a := ⟨g, 0, none⟩) hSq).trans g0; have u1 := (World.cell?_of_block (w := W) (a := ⟨g, 1, none⟩) hSq).trans g1; go_simp <;> first | with_reducible rfl | rfl)
    simp only [Act.put, List.setIfInBounds_toArray, List.set_cons_zero, List.set_cons_succ]
    refine take_on (i := 22) (v := ?_) rfl rfl (by kernel_rfl) (by kernel_rfl) (by kernel_rfl) (fun _ _ _ h => h) rfl ?_ hHeld ?_
    rotate_left
    · (intro wq hSq; have u0 := (World.cell?_of_block (w := W) (a := ⟨g, 0, none⟩) hSq).trans g0; have u1 := (World.cell?_of_block (w := W) (a := ⟨g, 1, none⟩) hSq).trans g1; go_simp <;> first | with_reducible rfl | rfl)
    simp only [Act.put, List.setIfInBounds_toArray, List.set_cons_zero, List.set_cons_succ]
    refine take_one (i := 23) rfl (by kernel_rfl) (fun K hK => ?_)
    go_simp
    refine hcr.mono ?_; rintro e v1 ⟨rfl, hA1, hc1⟩
    try go_wp2_with fail
    refine hK.out _ _ ?_ (fun hHeld => ?_)
    · exact hc1.block g hgl hgf
    clear hK K
    try simp only [Act.put, List.setIfInBounds_toArray, List.set_cons_zero, List.set_cons_succ]
    refine take_on (i := 24) (v := ?_) rfl rfl (by kernel_rfl) (by kernel_rfl) (by kernel_rfl) (fun _ _ _ h => h) rfl ?_ hHeld ?_
    rotate_left
    · (intro wq hSq; have u0 := (World.cell?_of_block (w := W) (a := ⟨g, 0, none⟩) hSq).trans g0; have u1 := (World.cell?_of_block (w := W) (a := ⟨g, 1, none⟩) hSq).trans g1; go_simp <;> first | with_reducible rfl | rfl)
    simp only [Act.put, List.setIfInBounds_toArray, List.set_cons_zero, List.set_cons_succ]
    refine take_on (i := 25) (v := ?_) rfl rfl (by kernel_rfl) (by kernel_rfl) (by kernel_rfl) (fun _ _ _ h => h) rfl ?_ hHeld ?_
    rotate_left
    · (intro wq hSq; have u0 := (World.cell?_of_block (w := W) (a := ⟨g, 0, none⟩) hSq).trans g0; have u1 := (World.cell?_of_block (w := W) (a := ⟨g, 1, none⟩) hSq).trans g1; go_simp <;> first | with_reducible rfl | rfl)
    simp only [Act.put, List.setIfInBounds_toArray, List.set_cons_zero, List.set_cons_succ]
    refine wpAnyH_done (by kernel_rfl) ?_ _
    have hkM : k + cc ≤ bs.length := by have := hwl.out; have := hcc.out; omega
    have hS1 := hide_it ((hSW.out.below (Below.refl _ _).drew).chg hc1)
    have hI1 := hide_it ((hIW.out.below (Below.refl _ _).drew).chg hc1)
    have hP1 := hide_it ((hSp.below (Below.refl _ _).drew).chg hc1)
    have hlen2 := crashB_len bs k cc t hkM
    obtain ⟨M, hM⟩ : ∃ M, M = k + cc := ⟨_, rfl⟩
    obtain ⟨bs2, hbs2⟩ : ∃ b, b = crashB bs k cc t := ⟨_, rfl⟩
    rw [← hM, ← hbs2] at hA1
    rw [← hM, ← hbs2] at hlen2
    rw [← hM] at hkM
    replace hM := hide_it hM
    replace hbs2 := hide_it hbs2
    obtain ⟨U1, hU1⟩ : ∃ U, U = upto U6 W.drew v1 := ⟨_, rfl⟩
    rw [← hU1] at hA1 hS1 hI1 hP1
    clear hU1 hSp hSW hIW hAW hsm hcr hHeld hc1 g0 g1 hgf hgl hkr
    have hwh := hA1.whole
    replace hA1 := hide_it hA1
    go_wp2_with fail
    refine hwh.mono ?_
    rintro e v2 ⟨⟨r3, rfl, hr3⟩, hb2⟩
    have hR2 := Sl.new hr3 hA1.out.lt
    have hA2 := hA1.out.below hb2
    obtain ⟨sa, sc, e3, _⟩ := hR2.row
    rw [hlen2] at e3
    subst e3
    have hbo := hA2.bounds
    rw [hlen2] at hbo
    obtain ⟨G3, hG3⟩ : ∃ G, G = B + M := ⟨_, rfl⟩
    rw [← hG3] at hbo
    replace hG3 := hide_it hG3
    replace hA2 := hide_it hA2
    replace hR2 := hide_it hR2
    clear hwh hr3 hA1
    go_wp2_with fail
    refine hbo.mono ?_
    rintro e v3 ⟨rfl, hb3⟩
    have hA3 := hA2.out.below hb3
    have hR3 := hR2.out.below hb3
    have hS3 := (hS1.out.below hb2).below hb3
    have hI3 := hide_it ((hI1.out.below hb2).below hb3)
    have hP3 := (hP1.out.below hb2).below hb3
    clear hbo hA2 hR2 hS1 hI1 hP1 hb2 hb3
    obtain ⟨D, hD⟩ : ∃ D, D = bs.length - k := ⟨_, rfl⟩
    have hcase : (D = 0 ∧ cc = 0 ∧ K < 1) ∨ (D = 0 ∧ cc = 0 ∧ ¬ K < 1) ∨ (0 < D ∧ cc = 0 ∧ K < 0) ∨ (0 < D ∧ cc = 0 ∧ K = 0) ∨ (0 < cc ∧ cc < D ∧ K = (cc : Int)) ∨ (0 < cc ∧ cc = D ∧ (D : Int) ≤ K) := by have := hcc.out; omega
    have hwc : IntKind.i64.wrap ((G3 : Int) - (G1 : Int)) = (cc : Int) := by have := hwl.out; have := hG1.out; have := hG3.out; have := hM.out; rw [IntKind.wrap_i64]; omega
    have hwd : IntKind.i64.wrap ((G2 : Int) - (G1 : Int)) = (D : Int) := by have := hwl.out; have := hG1.out; have := hG2.out; rw [IntKind.wrap_i64]; omega
    have hdg : ¬ G2 < G3 := by have := hG2.out; have := hG3.out; omega
    replace hD := hide_it hD
    obtain ⟨q1, q2, q3, q4, _, q6⟩ := hS3.row
    cases q3
    obtain ⟨j1, j2, j3, j4, _, j6⟩ := hR3.row
    rw [hlen2] at j3
    cases j3
    have hA3' := hide_it hA3
    have hS3' := hide_it hS3
    have hR3' := hide_it hR3
    have hP3' := hide_it hP3
    clear hA3 hS3 hR3 hP3
    dsimp only
    iterate 42 (first | go_step | go_upon | go_values | (simp only [Int.not_lt, Int.not_le] at *; go_simp))
    apply wp_seq_k
    intro KK hKK
    rcases hcase with ⟨h0, rfl, h1⟩ | ⟨h0, rfl, h1⟩ | ⟨h1, rfl, h2⟩ | ⟨h1, rfl, rfl⟩ | ⟨h1, h2, rfl⟩ | ⟨h1, h0, h2⟩
    · refine wp_of_eq (d := guards) (by kernel_rfl) (way_a hwd hdg h1 h0 (fun _ _ _ _ _ _ _ _ _ _ _ _ _ _ _ _ _ _ _ _ _ _ _ _ _ _ _ _ _ _ _ _ _ _ _ _ _ _ _ _ _ _ _ _ _ _ _ _ _ _ _ _ _ _ => ?_))
      refine hKK _ _ ?_
      exact wp_of_eq (d := rest) (by kernel_rfl) (rest_zero ht hlen2 hbs2 hM hkM hA3' hS3' hR3' hP3' hI3 rfl)
    · refine wp_of_eq (d := guards) (by kernel_rfl) (way_b hwd hdg h1 h0 (fun _ _ _ _ _ _ _ _ _ _ _ _ _ _ _ _ _ _ _ _ _ _ _ _ _ _ _ _ _ _ _ _ _ _ _ _ _ _ _ _ _ _ _ _ _ _ _ _ _ _ _ _ _ _ => ?_))
      refine hKK _ _ ?_
      exact wp_of_eq (d := rest) (by kernel_rfl) (rest_zero ht hlen2 hbs2 hM hkM hA3' hS3' hR3' hP3' hI3 rfl)
    · refine wp_of_eq (d := guards) (by kernel_rfl) (way_c hwd hdg h1 h2 (fun _ _ _ _ _ _ _ _ _ _ _ _ _ _ _ _ _ _ _ _ _ _ _ _ _ _ _ _ _ _ _ _ _ _ _ _ _ _ _ _ _ _ _ _ _ _ _ _ _ _ _ _ _ _ => ?_))
      refine hKK _ _ ?_
      exact wp_of_eq (d := rest) (by kernel_rfl) (rest_zero ht hlen2 hbs2 hM hkM hA3' hS3' hR3' hP3' hI3 rfl)
    · refine wp_of_eq (d := guards) (by kernel_rfl) (way_d hwd hdg h1 (fun _ _ _ _ _ _ _ _ _ _ _ _ _ _ _ _ _ _ _ _ _ _ _ _ _ _ _ _ _ _ _ _ _ _ _ _ _ _ _ _ _ _ _ _ _ _ _ _ _ _ _ _ _ _ => ?_))
      refine hKK _ _ ?_
      exact wp_of_eq (d := rest) (by kernel_rfl) (rest_zero ht hlen2 hbs2 hM hkM hA3' hS3' hR3' hP3' hI3 rfl)
    · refine wp_of_eq (d := guards) (by kernel_rfl) (way_e hwd hdg h1 h2 (fun _ _ _ _ _ _ _ _ _ _ _ _ _ _ _ _ _ _ _ _ _ _ _ _ _ _ _ _ _ _ _ _ _ _ _ _ _ _ _ _ _ _ _ _ _ _ _ _ _ _ _ _ _ _ => ?_))
      refine hKK _ _ ?_
      exact wp_of_eq (d := rest) (by kernel_rfl) (rest_pos ht hlen2 hbs2 hM hkM hA3' hS3' hR3' hP3' hI3 h1)
    · refine wp_of_eq (d := guards) (by kernel_rfl) (way_f hwd hdg h1 h0.symm (by omega) (fun _ _ _ _ _ _ _ _ _ _ _ _ _ _ _ _ _ _ _ _ _ _ _ _ _ _ _ _ _ _ _ _ _ _ _ _ _ _ _ _ _ _ _ _ _ _ _ _ _ _ _ _ _ _ => ?_))
      refine hKK _ _ ?_
      exact wp_of_eq (d := rest) (by kernel_rfl) (rest_pos ht hlen2 hbs2 hM hkM hA3' hS3' hR3' hP3' hI3 h1)
end Go.Proofs.Ytejaaalgnbnalaa.areaLeft
