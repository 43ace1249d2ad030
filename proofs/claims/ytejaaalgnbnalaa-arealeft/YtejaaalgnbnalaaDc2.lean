/- The document's Append, walked. -/
import Derived.Test.YtejaaalgnbnalaaDc1
import Derived.Deep.CutRange
namespace Go.Proofs.Ytejaaalgnbnalaa
open Go.RowKit

/-- What a call of the document's answers that makes an area: the struct's value, in memory that is new. -/
structure DocOut (w : World) (v : Value) (B : Int) (bs : List Nat) (fs : List Bool) (w' : World) : Prop where
  ex : ∃ da sa, v = .agg #[.int .i64 B, da, sa] ∧ OwB w' w.heap.size da bs ∧ OwO w' w.heap.size sa fs
  bel : Below w.heap.size w w'

set_option maxRecDepth 100000 in
set_option maxHeartbeats 2000000 in
theorem rappend_any (B : Int) (a1 a2 : Option Addr) (c1 c2 : Nat) (bs : List Nat) (fs : List Bool) (n : Nat) (hn1 : bs.length = n) (hn2 : fs.length = n) (w : World) (h1 : RowB w a1 bs) (h2 : RowO w a2 fs) (k1 : a1 = none → bs.length = 0 ∧ c1 = 0) (k2 : a2 = none → fs.length = 0 ∧ c2 = 0)
    (a : Option Addr) (cap : Nat) (zs : List Nat) (hr : RowB w a zs) (hnil : a = none → zs.length = 0 ∧ cap = 0) (hl : n + zs.length ≤ 211106232532800) :
    Calls Try.prog 23 #[.agg #[.int .i64 B, .slice a1 n c1, .slice a2 n c2], .slice a zs.length cap] w fun e w' => ∃ v, e = .returned v ∧ DocOut w v B (bs ++ zs) (fs ++ List.replicate zs.length false) w' := by
  obtain ⟨W0, hW0⟩ : ∃ W0, W0 = (w.alloc (.cells #[.int .i64 B, .slice a1 n c1, .slice a2 n c2] 52)).alloc (.cells #[.int .i64 0, .slice none 0 0, .slice none 0 0] 52) := ⟨_, rfl⟩
  have hb0 : Below w.heap.size w W0 := by rw [hW0]; exact ((Below.refl _ _).alloc (Nat.le_refl _) _).alloc (by simp) _
  have hq0 : BoxD W0 w.heap.size B (.slice a1 n c1) (.slice a2 n c2) := by rw [hW0]; exact (BoxD.new w _ _ _).keep (Below.heap_alloc _ _ _ (by simp))
  have hq1 : BoxD W0 (w.heap.size + 1) 0 (.slice none 0 0) (.slice none 0 0) := by
    have := BoxD.new (w.alloc (.cells #[.int .i64 B, .slice a1 n c1, .slice a2 n c2] 52)) 0 (.slice none 0 0) (.slice none 0 0)
    rw [hW0]; simpa using this
  obtain ⟨x0, x1, x2, _⟩ := hq0.cells
  have hs1 := hq1.lt
  have hMk := (Mk.start bs fs W0).drew
  have r1 := h1.below hb0
  have r2 := h2.below hb0
  have r3 := hr.below hb0
  have r4 := hide_it r3
  go_enter Try.func23, Try.ntmps23
  go_wp2_with fail
  rw [← hW0]
  clear hW0 h1 h2 hr
  go_cut [5] from 7 to 15 (fun p wc => ∃ q da sa, p = .pointer (some ⟨q, 0, none⟩) ∧ Hid (Cp W0 W0.heap.size wc q B da sa bs fs))
  case first =>
    refine wp_region_held_drew (S := (fun w' => w'.heap[w.heap.size]? = W0.heap[w.heap.size]?)) (by kernel_rfl) ?_ (fun hHeld => ?_)
    · rfl
    refine take_on (i := 0) (v := ?_) rfl rfl (by kernel_rfl) (by kernel_rfl) (by kernel_rfl) (fun _ _ _ h => h) rfl ?_ hHeld ?_
    rotate_left
    · (intro wq hSq; have q0 := (World.cell?_of_block (w := W0) (a := ⟨w.heap.size, 0, none⟩) hSq).trans x0; have q1 := (World.cell?_of_block (w := W0) (a := ⟨w.heap.size, 1, none⟩) hSq).trans x1; have q2 := (World.cell?_of_block (w := W0) (a := ⟨w.heap.size, 2, none⟩) hSq).trans x2; go_simp <;> first | with_reducible rfl | rfl)
    simp only [Act.put, List.setIfInBounds_toArray, List.set_cons_zero, List.set_cons_succ]
    refine take_on (i := 1) (v := ?_) rfl rfl (by kernel_rfl) (by kernel_rfl) (by kernel_rfl) (fun _ _ _ h => h) rfl ?_ hHeld ?_
    rotate_left
    · (intro wq hSq; have q0 := (World.cell?_of_block (w := W0) (a := ⟨w.heap.size, 0, none⟩) hSq).trans x0; have q1 := (World.cell?_of_block (w := W0) (a := ⟨w.heap.size, 1, none⟩) hSq).trans x1; have q2 := (World.cell?_of_block (w := W0) (a := ⟨w.heap.size, 2, none⟩) hSq).trans x2; go_simp <;> first | with_reducible rfl | rfl)
    simp only [Act.put, List.setIfInBounds_toArray, List.set_cons_zero, List.set_cons_succ]
    refine take_on (i := 2) (v := ?_) rfl rfl (by kernel_rfl) (by kernel_rfl) (by kernel_rfl) (fun _ _ _ h => h) rfl ?_ hHeld ?_
    rotate_left
    · (intro wq hSq; have q0 := (World.cell?_of_block (w := W0) (a := ⟨w.heap.size, 0, none⟩) hSq).trans x0; have q1 := (World.cell?_of_block (w := W0) (a := ⟨w.heap.size, 1, none⟩) hSq).trans x1; have q2 := (World.cell?_of_block (w := W0) (a := ⟨w.heap.size, 2, none⟩) hSq).trans x2; go_simp <;> first | with_reducible rfl | rfl)
    simp only [Act.put, List.setIfInBounds_toArray, List.set_cons_zero, List.set_cons_succ]
    refine take_on (i := 3) (v := ?_) rfl rfl (by kernel_rfl) (by kernel_rfl) (by kernel_rfl) (fun _ _ _ h => h) rfl ?_ hHeld ?_
    rotate_left
    · (intro wq hSq; have q0 := (World.cell?_of_block (w := W0) (a := ⟨w.heap.size, 0, none⟩) hSq).trans x0; have q1 := (World.cell?_of_block (w := W0) (a := ⟨w.heap.size, 1, none⟩) hSq).trans x1; have q2 := (World.cell?_of_block (w := W0) (a := ⟨w.heap.size, 2, none⟩) hSq).trans x2; go_simp <;> first | with_reducible rfl | rfl)
    simp only [Act.put, List.setIfInBounds_toArray, List.set_cons_zero, List.set_cons_succ]
    refine take_on (i := 5) (v := ?_) rfl rfl (by kernel_rfl) (by kernel_rfl) (by kernel_rfl) (fun _ _ _ h => h) rfl ?_ hHeld ?_
    rotate_left
    · (intro wq hSq; have q0 := (World.cell?_of_block (w := W0) (a := ⟨w.heap.size, 0, none⟩) hSq).trans x0; have q1 := (World.cell?_of_block (w := W0) (a := ⟨w.heap.size, 1, none⟩) hSq).trans x1; have q2 := (World.cell?_of_block (w := W0) (a := ⟨w.heap.size, 2, none⟩) hSq).trans x2; go_simp <;> first | with_reducible rfl | rfl)
    simp only [Act.put, List.setIfInBounds_toArray, List.set_cons_zero, List.set_cons_succ]
    refine take_on (i := 6) (v := ?_) rfl rfl (by kernel_rfl) (by kernel_rfl) (by kernel_rfl) (fun _ _ _ h => h) rfl ?_ hHeld ?_
    rotate_left
    · (intro wq hSq; have q0 := (World.cell?_of_block (w := W0) (a := ⟨w.heap.size, 0, none⟩) hSq).trans x0; have q1 := (World.cell?_of_block (w := W0) (a := ⟨w.heap.size, 1, none⟩) hSq).trans x1; have q2 := (World.cell?_of_block (w := W0) (a := ⟨w.heap.size, 2, none⟩) hSq).trans x2; go_simp <;> first | with_reducible rfl | rfl)
    simp only [Act.put, List.setIfInBounds_toArray, List.set_cons_zero, List.set_cons_succ]
    refine take_two (i := 4) (j := 9) rfl rfl (by kernel_rfl) (fun K hK => ?_) (fun K hK => ?_)
    · obtain ⟨b1, b2, yB, hrun, hMk⟩ := hMk.appB 23 a1 c1 r1 k1 (by omega) hn1
      refine step_append_run rfl _ _ _ rfl _ _ _ _ rfl rfl hrun ?_
      refine hK.out _ _ ?_ (fun hHeld => ?_)
      · exact hMk.bel.block w.heap.size (by omega)
      clear hK K
      try simp only [Act.put, List.setIfInBounds_toArray, List.set_cons_zero, List.set_cons_succ]
      refine take_two (i := 7) (j := 9) rfl rfl (by kernel_rfl) (fun K hK => ?_) (fun K hK => ?_)
      · obtain ⟨o1, o2, yO, hrun, hMk⟩ := hMk.appO 50 a2 c2 r2 k2 (by omega) hn2
        refine step_append_run rfl _ _ _ rfl _ _ _ _ rfl rfl hrun ?_
        refine hK.out _ _ ?_ (fun hHeld => ?_)
        · exact hMk.bel.block w.heap.size (by omega)
        clear hK K
        try simp only [Act.put, List.setIfInBounds_toArray, List.set_cons_zero, List.set_cons_succ]
        refine take_on (i := 8) (v := ?_) rfl rfl (by kernel_rfl) (by kernel_rfl) (by kernel_rfl) (fun _ _ _ h => h) rfl ?_ hHeld ?_
        rotate_left
        · (intro wq hSq; have q0 := (World.cell?_of_block (w := W0) (a := ⟨w.heap.size, 0, none⟩) hSq).trans x0; have q1 := (World.cell?_of_block (w := W0) (a := ⟨w.heap.size, 1, none⟩) hSq).trans x1; have q2 := (World.cell?_of_block (w := W0) (a := ⟨w.heap.size, 2, none⟩) hSq).trans x2; go_simp <;> first | with_reducible rfl | rfl)
        simp only [Act.put, List.setIfInBounds_toArray, List.set_cons_zero, List.set_cons_succ]
        refine take_one (i := 9) rfl (by kernel_rfl) (fun K hK => ?_)
        · obtain ⟨yA, eA, hMk⟩ := hMk.box
          go_simp
          first | rw [← eA] | rw [show (W0.alloc (.cells #[.int .i64 0, .slice none 0 0, .slice none 0 0] 52)).drew = yA from eA.symm]
          clear eA
          try change Mk bs fs W0 yA none none (some W0.heap.size) at hMk
          refine hK.out _ _ ?_ (fun hHeld => ?_)
          · exact hMk.bel.block w.heap.size (by omega)
          clear hK K
          try simp only [Act.put, List.setIfInBounds_toArray, List.set_cons_zero, List.set_cons_succ]
          refine take_one (i := 10) rfl (by kernel_rfl) (fun K hK => ?_)
          obtain ⟨g1, g2⟩ := hMk.q _ rfl
          obtain ⟨y0, y1, y2, z0, z1, z2⟩ := g2.cells
          have hcp := hMk.fin B
          go_simp
          refine hK.out _ _ ?_ (fun hHeld => ?_)
          · exact hcp.bel.block w.heap.size (by omega)
          clear hK K
          try simp only [Act.put, List.setIfInBounds_toArray, List.set_cons_zero, List.set_cons_succ]
          refine wpAnyH_done (by kernel_rfl) ?_ _
          try go_wp2_with fail
          go_meet
          case rel => exact ⟨_, _, _, rfl, hide_it hcp⟩
      · obtain ⟨yA, eA, hMk⟩ := hMk.box
        go_simp
        first | rw [← eA] | rw [show (W0.alloc (.cells #[.int .i64 0, .slice none 0 0, .slice none 0 0] 52)).drew = yA from eA.symm]
        clear eA
        try change Mk bs fs W0 yA none none (some W0.heap.size) at hMk
        refine hK.out _ _ ?_ (fun hHeld => ?_)
        · exact hMk.bel.block w.heap.size (by omega)
        clear hK K
        try simp only [Act.put, List.setIfInBounds_toArray, List.set_cons_zero, List.set_cons_succ]
        refine take_one (i := 7) rfl (by kernel_rfl) (fun K hK => ?_)
        · obtain ⟨o1, o2, yO, hrun, hMk⟩ := hMk.appO 50 a2 c2 r2 k2 (by omega) hn2
          refine step_append_run rfl _ _ _ rfl _ _ _ _ rfl rfl hrun ?_
          refine hK.out _ _ ?_ (fun hHeld => ?_)
          · exact hMk.bel.block w.heap.size (by omega)
          clear hK K
          try simp only [Act.put, List.setIfInBounds_toArray, List.set_cons_zero, List.set_cons_succ]
          refine take_on (i := 8) (v := ?_) rfl rfl (by kernel_rfl) (by kernel_rfl) (by kernel_rfl) (fun _ _ _ h => h) rfl ?_ hHeld ?_
          rotate_left
          · (intro wq hSq; have q0 := (World.cell?_of_block (w := W0) (a := ⟨w.heap.size, 0, none⟩) hSq).trans x0; have q1 := (World.cell?_of_block (w := W0) (a := ⟨w.heap.size, 1, none⟩) hSq).trans x1; have q2 := (World.cell?_of_block (w := W0) (a := ⟨w.heap.size, 2, none⟩) hSq).trans x2; go_simp <;> first | with_reducible rfl | rfl)
          simp only [Act.put, List.setIfInBounds_toArray, List.set_cons_zero, List.set_cons_succ]
          refine take_one (i := 10) rfl (by kernel_rfl) (fun K hK => ?_)
          obtain ⟨g1, g2⟩ := hMk.q _ rfl
          obtain ⟨y0, y1, y2, z0, z1, z2⟩ := g2.cells
          have hcp := hMk.fin B
          go_simp
          refine hK.out _ _ ?_ (fun hHeld => ?_)
          · exact hcp.bel.block w.heap.size (by omega)
          clear hK K
          try simp only [Act.put, List.setIfInBounds_toArray, List.set_cons_zero, List.set_cons_succ]
          refine wpAnyH_done (by kernel_rfl) ?_ _
          try go_wp2_with fail
          go_meet
          case rel => exact ⟨_, _, _, rfl, hide_it hcp⟩
    · obtain ⟨yA, eA, hMk⟩ := hMk.box
      go_simp
      first | rw [← eA] | rw [show (W0.alloc (.cells #[.int .i64 0, .slice none 0 0, .slice none 0 0] 52)).drew = yA from eA.symm]
      clear eA
      try change Mk bs fs W0 yA none none (some W0.heap.size) at hMk
      refine hK.out _ _ ?_ (fun hHeld => ?_)
      · exact hMk.bel.block w.heap.size (by omega)
      clear hK K
      try simp only [Act.put, List.setIfInBounds_toArray, List.set_cons_zero, List.set_cons_succ]
      refine take_one (i := 4) rfl (by kernel_rfl) (fun K hK => ?_)
      · obtain ⟨b1, b2, yB, hrun, hMk⟩ := hMk.appB 23 a1 c1 r1 k1 (by omega) hn1
        refine step_append_run rfl _ _ _ rfl _ _ _ _ rfl rfl hrun ?_
        refine hK.out _ _ ?_ (fun hHeld => ?_)
        · exact hMk.bel.block w.heap.size (by omega)
        clear hK K
        try simp only [Act.put, List.setIfInBounds_toArray, List.set_cons_zero, List.set_cons_succ]
        refine take_one (i := 7) rfl (by kernel_rfl) (fun K hK => ?_)
        · obtain ⟨o1, o2, yO, hrun, hMk⟩ := hMk.appO 50 a2 c2 r2 k2 (by omega) hn2
          refine step_append_run rfl _ _ _ rfl _ _ _ _ rfl rfl hrun ?_
          refine hK.out _ _ ?_ (fun hHeld => ?_)
          · exact hMk.bel.block w.heap.size (by omega)
          clear hK K
          try simp only [Act.put, List.setIfInBounds_toArray, List.set_cons_zero, List.set_cons_succ]
          refine take_on (i := 8) (v := ?_) rfl rfl (by kernel_rfl) (by kernel_rfl) (by kernel_rfl) (fun _ _ _ h => h) rfl ?_ hHeld ?_
          rotate_left
          · (intro wq hSq; have q0 := (World.cell?_of_block (w := W0) (a := ⟨w.heap.size, 0, none⟩) hSq).trans x0; have q1 := (World.cell?_of_block (w := W0) (a := ⟨w.heap.size, 1, none⟩) hSq).trans x1; have q2 := (World.cell?_of_block (w := W0) (a := ⟨w.heap.size, 2, none⟩) hSq).trans x2; go_simp <;> first | with_reducible rfl | rfl)
          simp only [Act.put, List.setIfInBounds_toArray, List.set_cons_zero, List.set_cons_succ]
          refine take_one (i := 10) rfl (by kernel_rfl) (fun K hK => ?_)
          obtain ⟨g1, g2⟩ := hMk.q _ rfl
          obtain ⟨y0, y1, y2, z0, z1, z2⟩ := g2.cells
          have hcp := hMk.fin B
          go_simp
          refine hK.out _ _ ?_ (fun hHeld => ?_)
          · exact hcp.bel.block w.heap.size (by omega)
          clear hK K
          try simp only [Act.put, List.setIfInBounds_toArray, List.set_cons_zero, List.set_cons_succ]
          refine wpAnyH_done (by kernel_rfl) ?_ _
          try go_wp2_with fail
          go_meet
          case rel => exact ⟨_, _, _, rfl, hide_it hcp⟩
  case rest =>
    obtain ⟨q, da0, sa0, rfl, hcp⟩ := hcut
    clear hMk r1 r2 x0 x1 x2
    have hlz : zs.length ≤ maxLen := by unfold maxLen; omega
    go_wp2_with fail
    go_loopw [6] (fun i wr => ∃ m : Nat, m ≤ zs.length ∧ i = .int .i64 (m : Int) ∧ ∃ da sa, Cp W0 W0.heap.size wr q B da sa (bs ++ zs.take m) (fs ++ List.replicate m false)) (fun i _ => zs.length - (intOf i).toNat)
    case atStart => exact ⟨0, by omega, rfl, da0, sa0, by simpa using hcp.out⟩
    case round =>
      obtain ⟨m, hm, rfl, da, sa, hC⟩ := hrel
      clear hcp
      by_cases hlt : m < zs.length
      · obtain ⟨bk, off, rfl, hbk, hcells⟩ := r4.out.here hlt
        have hz := hcells m hlt
        obtain ⟨Z, hZ⟩ : ∃ Z, Z = at0 zs m := ⟨_, rfl⟩
        rw [← hZ] at hz
        obtain ⟨Bs, hBs⟩ : ∃ Bs, Bs = bs ++ zs.take m := ⟨_, rfl⟩
        obtain ⟨Fs, hFs⟩ : ∃ Fs, Fs = fs ++ List.replicate m false := ⟨_, rfl⟩
        rw [← hBs, ← hFs] at hC
        have hbl : Bs.length = n + m := by rw [hBs, List.length_append, hn1, List.length_take]; omega
        have hfl : Fs.length = n + m := by rw [hFs, List.length_append, hn2, List.length_replicate]
        have hB2 : Hid (bs ++ zs.take (m + 1) = Bs ++ [Z]) := by
          unfold Hid
          rw [hBs, hZ, ← at0_get hlt, List.append_assoc, List.take_append_getElem]
        have hF2 : Hid (fs ++ List.replicate (m + 1) false = Fs ++ [false]) := by
          unfold Hid
          rw [hFs, List.append_assoc, List.replicate_succ']
        obtain ⟨e0, e1, e2, g0, g1, g2⟩ := hC.box.cells
        obtain ⟨d1, d2, d3, _⟩ := hC.by_.row
        rw [hbl] at d3
        subst d3
        obtain ⟨a', c', w5, hrun, hbx, hC5⟩ := hC.drew.appB 23 Z (by omega) hbl
        obtain ⟨f0, f1, f2, j0, j1, j2⟩ := hbx.cells
        have hbw := hC.bel
        have hqs := hC.box.lt
        have e1' : (wr.alloc (.cells #[.int .u8 (Z : Int)] 5)).cell? ⟨q, 1, none⟩ = some (.slice d1 (n + m) d2) := (World.cell?_of_block (a := ⟨q, 1, none⟩) (Below.heap_alloc _ _ _ hqs)).trans e1
        have hC := hide_it hC
        have hbw5 : Below W0.heap.size W0 w5 := hC5.2
        replace hC5 := hide_it hC5.1
        have hhl := hide_it hl
        have hms : m < 1000000000000000 := by omega
        clear hbx hBs hFs hZ r4 hcells hl
        go_wp2_with fail
        refine wp_region_held_drew (S := (fun w' => Below W0.heap.size W0 w')) (by kernel_rfl) ?_ (fun hHeld => ?_)
        · exact hbw.drew
        refine take_on (i := 0) (v := ?_) rfl rfl (by kernel_rfl) (by kernel_rfl) (by kernel_rfl) (fun _ _ _ h => h) rfl ?_ hHeld ?_
        rotate_left
        · (intro wq hSq; have q5 := (hSq.cell (p := ⟨bk, off + m, none⟩) hbk).trans hz; go_simp <;> first | with_reducible rfl | rfl)
        simp only [Act.put, List.setIfInBounds_toArray, List.set_cons_zero, List.set_cons_succ]
        refine take_on (i := 2) (v := ?_) rfl rfl (by kernel_rfl) (by kernel_rfl) (by kernel_rfl) (fun _ _ _ h => h) rfl ?_ hHeld ?_
        rotate_left
        · (intro wq hSq; have q5 := (hSq.cell (p := ⟨bk, off + m, none⟩) hbk).trans hz; go_simp <;> first | with_reducible rfl | rfl)
        simp only [Act.put, List.setIfInBounds_toArray, List.set_cons_zero, List.set_cons_succ]
        refine take_on (i := 3) (v := ?_) rfl rfl (by kernel_rfl) (by kernel_rfl) (by kernel_rfl) (fun _ _ _ h => h) rfl ?_ hHeld ?_
        rotate_left
        · (intro wq hSq; have q5 := (hSq.cell (p := ⟨bk, off + m, none⟩) hbk).trans hz; go_simp <;> first | with_reducible rfl | rfl)
        simp only [Act.put, List.setIfInBounds_toArray, List.set_cons_zero, List.set_cons_succ]
        refine take_on (i := 4) (v := ?_) rfl rfl (by kernel_rfl) (by kernel_rfl) (by kernel_rfl) (fun _ _ _ h => h) rfl ?_ hHeld ?_
        rotate_left
        · (intro wq hSq; have q5 := (hSq.cell (p := ⟨bk, off + m, none⟩) hbk).trans hz; go_simp <;> first | with_reducible rfl | rfl)
        simp only [Act.put, List.setIfInBounds_toArray, List.set_cons_zero, List.set_cons_succ]
        refine take_on (i := 5) (v := ?_) rfl rfl (by kernel_rfl) (by kernel_rfl) (by kernel_rfl) (fun _ _ _ h => h) rfl ?_ hHeld ?_
        rotate_left
        · (intro wq hSq; have q5 := (hSq.cell (p := ⟨bk, off + m, none⟩) hbk).trans hz; go_simp <;> first | with_reducible rfl | rfl)
        simp only [Act.put, List.setIfInBounds_toArray, List.set_cons_zero, List.set_cons_succ]
        refine take_two (i := 1) (j := 6) rfl rfl (by kernel_rfl) (fun K hK => ?_) (fun K hK => ?_)
        · go_simp
          skip
          try go_wp2_with fail
          refine hK.out _ _ ?_ (fun hHeld => ?_)
          · exact hHeld
          clear hK K
          try simp only [Act.put, List.setIfInBounds_toArray, List.set_cons_zero, List.set_cons_succ]
          refine take_one (i := 6) rfl (by kernel_rfl) (fun K hK => ?_)
          · go_simp
            skip
            try go_wp2_with fail
            refine hK.out _ _ ?_ (fun hHeld => ?_)
            · exact hHeld.alloc hHeld.size _
            clear hK K
            try simp only [Act.put, List.setIfInBounds_toArray, List.set_cons_zero, List.set_cons_succ]
            refine take_one (i := 7) rfl (by kernel_rfl) (fun K hK => ?_)
            refine step_append_run rfl _ _ _ rfl _ _ _ _ rfl rfl hrun ?_
            refine hK.out _ _ ?_ (fun hHeld => ?_)
            · exact (show Below W0.heap.size W0 w5 from hbw5)
            clear hK K
            try simp only [Act.put, List.setIfInBounds_toArray, List.set_cons_zero, List.set_cons_succ]
            refine take_on (i := 8) (v := ?_) rfl rfl (by kernel_rfl) (by kernel_rfl) (by kernel_rfl) (fun _ _ _ h => h) rfl ?_ hHeld ?_
            rotate_left
            · (intro wq hSq; have q5 := (hSq.cell (p := ⟨bk, off + m, none⟩) hbk).trans hz; go_simp <;> first | with_reducible rfl | rfl)
            simp only [Act.put, List.setIfInBounds_toArray, List.set_cons_zero, List.set_cons_succ]
            refine take_one (i := 9) rfl (by kernel_rfl) (fun K hK => ?_)
            go_simp
            refine hK.out _ _ ?_ (fun hHeld => ?_)
            · exact hC5.out.bel
            clear hK K
            try simp only [Act.put, List.setIfInBounds_toArray, List.set_cons_zero, List.set_cons_succ]
            refine wpAnyH_done (by kernel_rfl) ?_ _
            generalize hW5 : w5.setCell ⟨q, 1, none⟩ (.slice a' (n + m + 1) c') = W5 at hC5 ⊢
            clear hW5 hrun f0 f1 f2 j0 j1 j2 e0 e1 e2 g0 g1 g2 e1' hz hbw
            obtain ⟨e0, e1, e2, g0, g1, g2⟩ := hC5.out.box.cells
            obtain ⟨s1, s2, s3, _⟩ := hC5.out.sf.row
            rw [hfl] at s3
            subst s3
            obtain ⟨a9, c9, w6, hrun2, hbx2, hC6⟩ := hC5.out.appO 50 false (by have := hhl.out; omega) hfl
            obtain ⟨f0, f1, f2, j0, j1, j2⟩ := hbx2.cells
            replace hC6 := hide_it hC6
            clear hbx2
            go_wp2_with (at_builtin; refine wpList_append_run rfl _ _ _ rfl _ _ _ _ rfl rfl hrun2 ?_)
            go_roundw
            case rel => exact ⟨m + 1, by omega, by go_num, _, _, by rw [hB2.out, hF2.out]; exact hC6.out⟩
            case measure => simp [intOf]; omega
        · go_simp
          skip
          try go_wp2_with fail
          refine hK.out _ _ ?_ (fun hHeld => ?_)
          · exact hHeld.alloc hHeld.size _
          clear hK K
          try simp only [Act.put, List.setIfInBounds_toArray, List.set_cons_zero, List.set_cons_succ]
          refine take_one (i := 1) rfl (by kernel_rfl) (fun K hK => ?_)
          · go_simp
            skip
            try go_wp2_with fail
            refine hK.out _ _ ?_ (fun hHeld => ?_)
            · exact hHeld
            clear hK K
            try simp only [Act.put, List.setIfInBounds_toArray, List.set_cons_zero, List.set_cons_succ]
            refine take_one (i := 7) rfl (by kernel_rfl) (fun K hK => ?_)
            refine step_append_run rfl _ _ _ rfl _ _ _ _ rfl rfl hrun ?_
            refine hK.out _ _ ?_ (fun hHeld => ?_)
            · exact (show Below W0.heap.size W0 w5 from hbw5)
            clear hK K
            try simp only [Act.put, List.setIfInBounds_toArray, List.set_cons_zero, List.set_cons_succ]
            refine take_on (i := 8) (v := ?_) rfl rfl (by kernel_rfl) (by kernel_rfl) (by kernel_rfl) (fun _ _ _ h => h) rfl ?_ hHeld ?_
            rotate_left
            · (intro wq hSq; have q5 := (hSq.cell (p := ⟨bk, off + m, none⟩) hbk).trans hz; go_simp <;> first | with_reducible rfl | rfl)
            simp only [Act.put, List.setIfInBounds_toArray, List.set_cons_zero, List.set_cons_succ]
            refine take_one (i := 9) rfl (by kernel_rfl) (fun K hK => ?_)
            go_simp
            refine hK.out _ _ ?_ (fun hHeld => ?_)
            · exact hC5.out.bel
            clear hK K
            try simp only [Act.put, List.setIfInBounds_toArray, List.set_cons_zero, List.set_cons_succ]
            refine wpAnyH_done (by kernel_rfl) ?_ _
            generalize hW5 : w5.setCell ⟨q, 1, none⟩ (.slice a' (n + m + 1) c') = W5 at hC5 ⊢
            clear hW5 hrun f0 f1 f2 j0 j1 j2 e0 e1 e2 g0 g1 g2 e1' hz hbw
            obtain ⟨e0, e1, e2, g0, g1, g2⟩ := hC5.out.box.cells
            obtain ⟨s1, s2, s3, _⟩ := hC5.out.sf.row
            rw [hfl] at s3
            subst s3
            obtain ⟨a9, c9, w6, hrun2, hbx2, hC6⟩ := hC5.out.appO 50 false (by have := hhl.out; omega) hfl
            obtain ⟨f0, f1, f2, j0, j1, j2⟩ := hbx2.cells
            replace hC6 := hide_it hC6
            clear hbx2
            go_wp2_with (at_builtin; refine wpList_append_run rfl _ _ _ rfl _ _ _ _ rfl rfl hrun2 ?_)
            go_roundw
            case rel => exact ⟨m + 1, by omega, by go_num, _, _, by rw [hB2.out, hF2.out]; exact hC6.out⟩
            case measure => simp [intOf]; omega
      · have hmn : m = zs.length := by omega
        rw [hmn, List.take_length] at hC
        subst hmn
        have hbr := (hC.bel.block (w.heap.size + 1) hs1).trans hq1
        have hbr : BoxD wr (w.heap.size + 1) 0 (.slice none 0 0) (.slice none 0 0) := hbr
        obtain ⟨e0, e1, e2, g0, g1, g2⟩ := hC.box.cells
        obtain ⟨i0, i1, i2, j0, j1, j2⟩ := hbr.cells
        obtain ⟨d1, d2, d3, _⟩ := hC.by_.row
        obtain ⟨s1, s2, s3, _⟩ := hC.sf.row
        subst d3
        subst s3
        have hall := hbr.all B (.slice d1 (bs ++ zs).length d2) (.slice s1 (fs ++ List.replicate zs.length false).length s2)
        have hk : ∀ j, W0.heap.size ≤ j → (((wr.setCell ⟨w.heap.size + 1, 0, none⟩ (.int .i64 B)).setCell ⟨w.heap.size + 1, 1, none⟩ (.slice d1 (bs ++ zs).length d2)).setCell ⟨w.heap.size + 1, 2, none⟩ (.slice s1 (fs ++ List.replicate zs.length false).length s2)).heap[j]? = wr.heap[j]? := fun j hj => by
          have hne : j ≠ w.heap.size + 1 := by omega
          exact (Below.heap_setCell _ _ _ _ hne).trans ((Below.heap_setCell _ _ _ _ hne).trans (Below.heap_setCell _ _ _ _ hne))
        have hout : DocOut w (.agg #[.int .i64 B, .slice d1 (bs ++ zs).length d2, .slice s1 (fs ++ List.replicate zs.length false).length s2]) B (bs ++ zs) (fs ++ List.replicate zs.length false) (((wr.setCell ⟨w.heap.size + 1, 0, none⟩ (.int .i64 B)).setCell ⟨w.heap.size + 1, 1, none⟩ (.slice d1 (bs ++ zs).length d2)).setCell ⟨w.heap.size + 1, 2, none⟩ (.slice s1 (fs ++ List.replicate zs.length false).length s2)) :=
          ⟨⟨_, _, rfl, (hC.by_.keep fun j hj => hk j (hC.by_.inside j hj).1).mono (by omega), (hC.sf.keep fun j hj => hk j (hC.sf.inside j hj).1).mono (by omega)⟩,
            (((hb0.trans (hC.bel.mono (by omega))).setCell (by show w.heap.size ≤ w.heap.size + 1; omega) _).setCell (by show w.heap.size ≤ w.heap.size + 1; omega) _).setCell (by show w.heap.size ≤ w.heap.size + 1; omega) _⟩
        obtain ⟨y0, y1, y2, _⟩ := hall.cells
        obtain ⟨N1, hN1⟩ : ∃ N1, N1 = (bs ++ zs).length := ⟨_, rfl⟩
        obtain ⟨N2, hN2⟩ : ∃ N2, N2 = (fs ++ List.replicate zs.length false).length := ⟨_, rfl⟩
        rw [← hN1] at e1 y0 y1 y2 hout
        rw [← hN2] at e2 y0 y1 y2 hout
        clear hall hk hC hbr r4 hN1 hN2 hq1 hq0
        go_wp2_with fail
        refine bodyPost_ret (v := .agg #[.int .i64 B, .slice d1 N1 d2, .slice s1 N2 s2]) (by simp [results, Try.results23, go_sem, y0, y1, y2]) rfl ?_
        exact ⟨_, rfl, hout⟩

end Go.Proofs.Ytejaaalgnbnalaa
