/- Arm and Strike: the parts begun anew. -/
import Derived.Test.YtdodnegdpdhbiaaDk8
namespace Go.Proofs.Ytdodnegdpdhbiaa
open Go.RowKit

section
variable {w : World} {F : Nat → Prop} {p : Nat} {am : Bool} {n : Nat} {s : Nat → Pt} {g : Nat} {C : Array Value} {q : Nat → Nat} {v : Nat → Value}

set_option maxRecDepth 100000 in
set_option maxHeartbeats 1600000 in
theorem begin_any (h : Dk w F p am n s g C q v) (b : Bool) (fa : Option Addr) (m cap : Nat) (f : Nat → Fte) (hfs : RowF w fa m f) (hfar : m = 0 ∨ farA F fa) (hft : ∀ i, i < m → (f i).t < 256) :
    Calls Try.prog 66 #[.pointer (some ⟨p, 0, none⟩), .bool b, .slice fa m cap] w fun e w' => e = .returned (.tuple #[]) ∧ Went w F p b n (armTo s m f n) w' := by
  obtain ⟨d0, d1, df⟩ := h.cells
  have hgF : F g := h.foot g (.inr (.inl rfl))
  have hpF : F p := h.foot p (.inl rfl)
  have h1 := h.arms b
  have hc1 : Chg F w (w.setCell ⟨p, 0, none⟩ (.bool b)) := (Chg.refl F w).setCell _ _ (fun _ => hpF)
  obtain ⟨e0, e1, _⟩ := h1.cells
  have hn := h.few.2
  replace h1 := hide_it h1
  replace hc1 := hide_it hc1
  clear h
  go_enter Try.func66, Try.ntmps66
  go_wp2_with fail
  go_loopw [17, 6, 7] (fun i _ _ wr => ∃ j : Nat, j ≤ n ∧ i = .int .i64 (j : Int) ∧ Hid ((∃ C', Dk wr F p b n (armTo s m f j) g C' q v) ∧ Chg F w wr)) (fun i _ _ _ => n - (intOf i).toNat)
  case atStart => exact ⟨0, by omega, rfl, ⟨C, by rw [armTo_zero]; exact h1.out⟩, hc1.out⟩
  case round =>
    obtain ⟨j, hj, rfl, hR⟩ := hrel
    clear e0 e1 df h1 hc1 d0 d1
    obtain ⟨⟨C', hD⟩, hc⟩ := hR.out
    clear hR
    by_cases hlt : j < n
    · obtain ⟨a0, a1, a2, a3, a4, aF⟩ := hD.at_ hlt
      rw [armTo_at] at a1 a2 a3 a4
      obtain ⟨b0, b1, _⟩ := hD.cells
      have hplt := hD.plt
      have hglt := hD.glt
      have hDH := hide_it hD
      clear hD
      go_wp2_with fail
      obtain ⟨X, hX⟩ : ∃ X, X = wr.heap.size := ⟨_, rfl⟩
      obtain ⟨w3, hw3⟩ : ∃ w3, w3 = wr.alloc (.cells #[.pointer (some ⟨q j, 0, none⟩), .int .i64 (s j).fd, .int .i64 (s j).fk, .int .u8 ((s j).ft : Int), .int .i64 ((s j).c : Int)] 111) := ⟨_, rfl⟩
      have hb3 : Below wr.heap.size wr w3 := by rw [hw3]; exact (Below.refl _ _).alloc (Nat.le_refl _) _
      have hx3 : w3.heap[X]? = some (.cells #[.pointer (some ⟨q j, 0, none⟩), .int .i64 (s j).fd, .int .i64 (s j).fk, .int .u8 ((s j).ft : Int), .int .i64 ((s j).c : Int)] 111 (0, 0)) := by rw [hw3, hX]; exact heap_alloc_new wr _
      rw [← hw3, ← hX]
      have hXg : X ≠ g := by omega
      have hpg : p ≠ g := hDH.out.pg
      have hD3 := hDH.out.below hb3
      have hc3 : Chg F w w3 := hc.trans (Chg.new (S := F) hb3) (fun _ _ x => x)
      have hfs3 := hfs.chg hc3 hfar
      clear hw3 hX hDH hc hb3 a0 a1 a2 a3 a4 aF b0 b1 hplt hglt
      have x0 := cell_of_row _ _ 0 _ _ _ hx3
      obtain ⟨b0, b1, _⟩ := hD3.cells
      obtain ⟨_, _, _, _, _, aF⟩ := hD3.at_ hlt
      have y5 := hD3.put5 hlt { s j with fd := 0, fk := 0, ft := 0, c := 0 } (by rw [armTo_at]; exact ⟨rfl, rfl, rfl, by simp⟩)
      have yc := chg_put5 hc3 hgF j (.pointer (some ⟨q j, 0, none⟩)) (.int .i64 0) (.int .i64 0) (.int .u8 0) (.int .i64 0)
      obtain ⟨C5, hD5⟩ := y5
      have g0 := (hD3.five j hlt).c0
      obtain ⟨t0, t1, t2, t3, t4⟩ := hD3.five j hlt
      have hgl : w3.cell? ⟨g, j * 5, none⟩ ≠ none := by rw [(hD3.at_ hlt).1]; simp
      have z0 := (hD3.at_ hlt).1
      have z1 := (hD3.at_ hlt).2.1
      have z2 := (hD3.at_ hlt).2.2.1
      have z3 := (hD3.at_ hlt).2.2.2.1
      have z4 := (hD3.at_ hlt).2.2.2.2.1
      have hkp : (put5 w3 g j (.pointer (some ⟨q j, 0, none⟩)) (.int .i64 0) (.int .i64 0) (.int .u8 0) (.int .i64 0)).drew.heap[p]? = w3.heap[p]? ∧ (put5 w3 g j (.pointer (some ⟨q j, 0, none⟩)) (.int .i64 0) (.int .i64 0) (.int .u8 0) (.int .i64 0)).drew.heap[X]? = w3.heap[X]? := by rw [heap_drew]; exact ⟨put5_block w3 _ _ _ _ _ _ _ hpg, put5_block w3 _ _ _ _ _ _ _ hXg⟩
      have hD5' := hide_it hD5
      have hD3' := hide_it hD3
      replace hc3 := hide_it hc3
      replace yc := hide_it yc
      replace hfs3 := hide_it hfs3
      replace hx3 := hide_it hx3
      clear hD5 hD3 t0 t1 t2 t3 t4 g0 hgl b0
      refine wp_calm ?_
      refine wp_region_held_drew (S := (fun w' => w'.heap[p]? = w3.heap[p]? ∧ w'.heap[X]? = w3.heap[X]?)) (by kernel_rfl) ?_ (fun hHeld => ?_)
      · exact ⟨rfl, rfl⟩
      refine take_on (i := 0) (v := ?_) rfl rfl (by kernel_rfl) (by kernel_rfl) (by kernel_rfl) (fun _ _ _ h => h) rfl ?_ hHeld ?_
      rotate_left
      · (intro wq hSq; have q0 := (World.cell?_of_block (w := w3) (a := ⟨p, 1, none⟩) hSq.1).trans b1; have q1 := (World.cell?_of_block (w := w3) (a := ⟨X, 0, none⟩) hSq.2).trans x0; go_simp <;> first | with_reducible rfl | rfl)
      simp only [Act.put, List.setIfInBounds_toArray, List.set_cons_zero, List.set_cons_succ]
      refine take_on (i := 1) (v := ?_) rfl rfl (by kernel_rfl) (by kernel_rfl) (by kernel_rfl) (fun _ _ _ h => h) rfl ?_ hHeld ?_
      rotate_left
      · (intro wq hSq; have q0 := (World.cell?_of_block (w := w3) (a := ⟨p, 1, none⟩) hSq.1).trans b1; have q1 := (World.cell?_of_block (w := w3) (a := ⟨X, 0, none⟩) hSq.2).trans x0; go_simp <;> first | with_reducible rfl | rfl)
      simp only [Act.put, List.setIfInBounds_toArray, List.set_cons_zero, List.set_cons_succ]
      refine take_on (i := 2) (v := ?_) rfl rfl (by kernel_rfl) (by kernel_rfl) (by kernel_rfl) (fun _ _ _ h => h) rfl ?_ hHeld ?_
      rotate_left
      · (intro wq hSq; have q0 := (World.cell?_of_block (w := w3) (a := ⟨p, 1, none⟩) hSq.1).trans b1; have q1 := (World.cell?_of_block (w := w3) (a := ⟨X, 0, none⟩) hSq.2).trans x0; go_simp <;> first | with_reducible rfl | rfl)
      simp only [Act.put, List.setIfInBounds_toArray, List.set_cons_zero, List.set_cons_succ]
      refine take_on (i := 3) (v := ?_) rfl rfl (by kernel_rfl) (by kernel_rfl) (by kernel_rfl) (fun _ _ _ h => h) rfl ?_ hHeld ?_
      rotate_left
      · (intro wq hSq; have q0 := (World.cell?_of_block (w := w3) (a := ⟨p, 1, none⟩) hSq.1).trans b1; have q1 := (World.cell?_of_block (w := w3) (a := ⟨X, 0, none⟩) hSq.2).trans x0; go_simp <;> first | with_reducible rfl | rfl)
      simp only [Act.put, List.setIfInBounds_toArray, List.set_cons_zero, List.set_cons_succ]
      refine take_on (i := 4) (v := ?_) rfl rfl (by kernel_rfl) (by kernel_rfl) (by kernel_rfl) (fun _ _ _ h => h) rfl ?_ hHeld ?_
      rotate_left
      · (intro wq hSq; have q0 := (World.cell?_of_block (w := w3) (a := ⟨p, 1, none⟩) hSq.1).trans b1; have q1 := (World.cell?_of_block (w := w3) (a := ⟨X, 0, none⟩) hSq.2).trans x0; go_simp <;> first | with_reducible rfl | rfl)
      simp only [Act.put, List.setIfInBounds_toArray, List.set_cons_zero, List.set_cons_succ]
      refine take_on (i := 5) (v := ?_) rfl rfl (by kernel_rfl) (by kernel_rfl) (by kernel_rfl) (fun _ _ _ h => h) rfl ?_ hHeld ?_
      rotate_left
      · (intro wq hSq; have q0 := (World.cell?_of_block (w := w3) (a := ⟨p, 1, none⟩) hSq.1).trans b1; have q1 := (World.cell?_of_block (w := w3) (a := ⟨X, 0, none⟩) hSq.2).trans x0; go_simp <;> first | with_reducible rfl | rfl)
      simp only [Act.put, List.setIfInBounds_toArray, List.set_cons_zero, List.set_cons_succ]
      refine take_on (i := 6) (v := ?_) rfl rfl (by kernel_rfl) (by kernel_rfl) (by kernel_rfl) (fun _ _ _ h => h) rfl ?_ hHeld ?_
      rotate_left
      · (intro wq hSq; have q0 := (World.cell?_of_block (w := w3) (a := ⟨p, 1, none⟩) hSq.1).trans b1; have q1 := (World.cell?_of_block (w := w3) (a := ⟨X, 0, none⟩) hSq.2).trans x0; go_simp <;> first | with_reducible rfl | rfl)
      simp only [Act.put, List.setIfInBounds_toArray, List.set_cons_zero, List.set_cons_succ]
      refine take_on (i := 7) (v := ?_) rfl rfl (by kernel_rfl) (by kernel_rfl) (by kernel_rfl) (fun _ _ _ h => h) rfl ?_ hHeld ?_
      rotate_left
      · (intro wq hSq; have q0 := (World.cell?_of_block (w := w3) (a := ⟨p, 1, none⟩) hSq.1).trans b1; have q1 := (World.cell?_of_block (w := w3) (a := ⟨X, 0, none⟩) hSq.2).trans x0; go_simp <;> first | with_reducible rfl | rfl)
      simp only [Act.put, List.setIfInBounds_toArray, List.set_cons_zero, List.set_cons_succ]
      refine take_on (i := 8) (v := ?_) rfl rfl (by kernel_rfl) (by kernel_rfl) (by kernel_rfl) (fun _ _ _ h => h) rfl ?_ hHeld ?_
      rotate_left
      · (intro wq hSq; have q0 := (World.cell?_of_block (w := w3) (a := ⟨p, 1, none⟩) hSq.1).trans b1; have q1 := (World.cell?_of_block (w := w3) (a := ⟨X, 0, none⟩) hSq.2).trans x0; go_simp <;> first | with_reducible rfl | rfl)
      simp only [Act.put, List.setIfInBounds_toArray, List.set_cons_zero, List.set_cons_succ]
      refine take_one (i := 9) rfl (by kernel_rfl) (fun K hK => ?_)
      go_simp
      skip
      try go_wp2_with fail
      refine hK.out _ _ ?_ (fun hHeld => ?_)
      · exact hkp
      clear hK K
      try simp only [Act.put, List.setIfInBounds_toArray, List.set_cons_zero, List.set_cons_succ]
      refine wpAnyH_done (by kernel_rfl) ?_ _
      obtain ⟨w5, hw5⟩ : ∃ w5, w5 = (put5 w3 g j (.pointer (some ⟨q j, 0, none⟩)) (.int .i64 0) (.int .i64 0) (.int .u8 0) (.int .i64 0)).drew := ⟨_, rfl⟩
      unfold put5 at hw5
      rw [← hw5]
      have hD5 : Dk w5 F p b n (upd (armTo s m f j) j { s j with fd := 0, fk := 0, ft := 0, c := 0 }) g C5 q v := by rw [hw5]; exact hD5'.out.drew
      have hc5 : Chg F w w5 := by rw [hw5]; exact yc.out.drew
      have hfs5 := hfs.chg hc5 hfar
      clear hw5 hD5' yc hkp hHeld hD3' hc3 hfs3 hx3 x0 aF z0 z1 z2 z3 z4 b1 hXg
      by_cases hjm : j < m
      · obtain ⟨fb, fo, rfl, hfb, hfc⟩ := hfs5.resolve_left (by omega)
        obtain ⟨f1, f2, f3⟩ := hfc j hjm
        have hfg : fb ≠ g := fun e => (hfar.resolve_left (by omega)) _ rfl (by rw [← e] at hgF; exact hgF)
        obtain ⟨b0, b1, _⟩ := hD5.cells
        obtain ⟨z0, z1, z2, z3, z4, aF⟩ := hD5.at_ hlt
        rw [upd_at] at z1 z2 z3 z4
        obtain ⟨C6, hD6⟩ := hD5.put3 hlt (f j).d (f j).k (f j).t (hft j hjm)
        have hc6 := chg_put3 hc5 hgF j (.int .i64 (f j).d) (.int .i64 (f j).k) (.int .u8 ((f j).t : Int))
        rw [upd_upd, upd_at] at hD6
        have hkp : (put3 w5 g j (.int .i64 (f j).d) (.int .i64 (f j).k) (.int .u8 ((f j).t : Int))).drew.heap[p]? = w5.heap[p]? ∧ (put3 w5 g j (.int .i64 (f j).d) (.int .i64 (f j).k) (.int .u8 ((f j).t : Int))).drew.heap[fb]? = w5.heap[fb]? := by rw [heap_drew]; exact ⟨put3_block w5 _ _ _ _ _ hpg, put3_block w5 _ _ _ _ _ hfg⟩
        replace hD6 := hide_it hD6
        replace hc6 := hide_it hc6
        clear hD5 hc5 hfs5 hfc hfs b0
        go_wp2_with fail
        refine wp_region_held_drew (S := (fun w' => w'.heap[p]? = w5.heap[p]? ∧ w'.heap[fb]? = w5.heap[fb]?)) (by kernel_rfl) ?_ (fun hHeld => ?_)
        · exact ⟨rfl, rfl⟩
        refine take_on (i := 0) (v := ?_) rfl rfl (by kernel_rfl) (by kernel_rfl) (by kernel_rfl) (fun _ _ _ h => h) rfl ?_ hHeld ?_
        rotate_left
        · (intro wq hSq; have q0 := (World.cell?_of_block (w := w5) (a := ⟨p, 1, none⟩) hSq.1).trans b1; have q1 := (World.cell?_of_block (w := w5) (a := ⟨fb, fo + j * 3, none⟩) hSq.2).trans f1; have q2 := (World.cell?_of_block (w := w5) (a := ⟨fb, fo + j * 3 + 1, none⟩) hSq.2).trans f2; have q3 := (World.cell?_of_block (w := w5) (a := ⟨fb, fo + j * 3 + 2, none⟩) hSq.2).trans f3; go_simp <;> first | with_reducible rfl | rfl)
        simp only [Act.put, List.setIfInBounds_toArray, List.set_cons_zero, List.set_cons_succ]
        refine take_on (i := 1) (v := ?_) rfl rfl (by kernel_rfl) (by kernel_rfl) (by kernel_rfl) (fun _ _ _ h => h) rfl ?_ hHeld ?_
        rotate_left
        · (intro wq hSq; have q0 := (World.cell?_of_block (w := w5) (a := ⟨p, 1, none⟩) hSq.1).trans b1; have q1 := (World.cell?_of_block (w := w5) (a := ⟨fb, fo + j * 3, none⟩) hSq.2).trans f1; have q2 := (World.cell?_of_block (w := w5) (a := ⟨fb, fo + j * 3 + 1, none⟩) hSq.2).trans f2; have q3 := (World.cell?_of_block (w := w5) (a := ⟨fb, fo + j * 3 + 2, none⟩) hSq.2).trans f3; go_simp <;> first | with_reducible rfl | rfl)
        simp only [Act.put, List.setIfInBounds_toArray, List.set_cons_zero, List.set_cons_succ]
        refine take_on (i := 2) (v := ?_) rfl rfl (by kernel_rfl) (by kernel_rfl) (by kernel_rfl) (fun _ _ _ h => h) rfl ?_ hHeld ?_
        rotate_left
        · (intro wq hSq; have q0 := (World.cell?_of_block (w := w5) (a := ⟨p, 1, none⟩) hSq.1).trans b1; have q1 := (World.cell?_of_block (w := w5) (a := ⟨fb, fo + j * 3, none⟩) hSq.2).trans f1; have q2 := (World.cell?_of_block (w := w5) (a := ⟨fb, fo + j * 3 + 1, none⟩) hSq.2).trans f2; have q3 := (World.cell?_of_block (w := w5) (a := ⟨fb, fo + j * 3 + 2, none⟩) hSq.2).trans f3; go_simp <;> first | with_reducible rfl | rfl)
        simp only [Act.put, List.setIfInBounds_toArray, List.set_cons_zero, List.set_cons_succ]
        refine take_on (i := 3) (v := ?_) rfl rfl (by kernel_rfl) (by kernel_rfl) (by kernel_rfl) (fun _ _ _ h => h) rfl ?_ hHeld ?_
        rotate_left
        · (intro wq hSq; have q0 := (World.cell?_of_block (w := w5) (a := ⟨p, 1, none⟩) hSq.1).trans b1; have q1 := (World.cell?_of_block (w := w5) (a := ⟨fb, fo + j * 3, none⟩) hSq.2).trans f1; have q2 := (World.cell?_of_block (w := w5) (a := ⟨fb, fo + j * 3 + 1, none⟩) hSq.2).trans f2; have q3 := (World.cell?_of_block (w := w5) (a := ⟨fb, fo + j * 3 + 2, none⟩) hSq.2).trans f3; go_simp <;> first | with_reducible rfl | rfl)
        simp only [Act.put, List.setIfInBounds_toArray, List.set_cons_zero, List.set_cons_succ]
        refine take_on (i := 4) (v := ?_) rfl rfl (by kernel_rfl) (by kernel_rfl) (by kernel_rfl) (fun _ _ _ h => h) rfl ?_ hHeld ?_
        rotate_left
        · (intro wq hSq; have q0 := (World.cell?_of_block (w := w5) (a := ⟨p, 1, none⟩) hSq.1).trans b1; have q1 := (World.cell?_of_block (w := w5) (a := ⟨fb, fo + j * 3, none⟩) hSq.2).trans f1; have q2 := (World.cell?_of_block (w := w5) (a := ⟨fb, fo + j * 3 + 1, none⟩) hSq.2).trans f2; have q3 := (World.cell?_of_block (w := w5) (a := ⟨fb, fo + j * 3 + 2, none⟩) hSq.2).trans f3; go_simp <;> first | with_reducible rfl | rfl)
        simp only [Act.put, List.setIfInBounds_toArray, List.set_cons_zero, List.set_cons_succ]
        refine take_on (i := 5) (v := ?_) rfl rfl (by kernel_rfl) (by kernel_rfl) (by kernel_rfl) (fun _ _ _ h => h) rfl ?_ hHeld ?_
        rotate_left
        · (intro wq hSq; have q0 := (World.cell?_of_block (w := w5) (a := ⟨p, 1, none⟩) hSq.1).trans b1; have q1 := (World.cell?_of_block (w := w5) (a := ⟨fb, fo + j * 3, none⟩) hSq.2).trans f1; have q2 := (World.cell?_of_block (w := w5) (a := ⟨fb, fo + j * 3 + 1, none⟩) hSq.2).trans f2; have q3 := (World.cell?_of_block (w := w5) (a := ⟨fb, fo + j * 3 + 2, none⟩) hSq.2).trans f3; go_simp <;> first | with_reducible rfl | rfl)
        simp only [Act.put, List.setIfInBounds_toArray, List.set_cons_zero, List.set_cons_succ]
        refine take_on (i := 6) (v := ?_) rfl rfl (by kernel_rfl) (by kernel_rfl) (by kernel_rfl) (fun _ _ _ h => h) rfl ?_ hHeld ?_
        rotate_left
        · (intro wq hSq; have q0 := (World.cell?_of_block (w := w5) (a := ⟨p, 1, none⟩) hSq.1).trans b1; have q1 := (World.cell?_of_block (w := w5) (a := ⟨fb, fo + j * 3, none⟩) hSq.2).trans f1; have q2 := (World.cell?_of_block (w := w5) (a := ⟨fb, fo + j * 3 + 1, none⟩) hSq.2).trans f2; have q3 := (World.cell?_of_block (w := w5) (a := ⟨fb, fo + j * 3 + 2, none⟩) hSq.2).trans f3; go_simp <;> first | with_reducible rfl | rfl)
        simp only [Act.put, List.setIfInBounds_toArray, List.set_cons_zero, List.set_cons_succ]
        refine take_on (i := 7) (v := ?_) rfl rfl (by kernel_rfl) (by kernel_rfl) (by kernel_rfl) (fun _ _ _ h => h) rfl ?_ hHeld ?_
        rotate_left
        · (intro wq hSq; have q0 := (World.cell?_of_block (w := w5) (a := ⟨p, 1, none⟩) hSq.1).trans b1; have q1 := (World.cell?_of_block (w := w5) (a := ⟨fb, fo + j * 3, none⟩) hSq.2).trans f1; have q2 := (World.cell?_of_block (w := w5) (a := ⟨fb, fo + j * 3 + 1, none⟩) hSq.2).trans f2; have q3 := (World.cell?_of_block (w := w5) (a := ⟨fb, fo + j * 3 + 2, none⟩) hSq.2).trans f3; go_simp <;> first | with_reducible rfl | rfl)
        simp only [Act.put, List.setIfInBounds_toArray, List.set_cons_zero, List.set_cons_succ]
        refine take_on (i := 8) (v := ?_) rfl rfl (by kernel_rfl) (by kernel_rfl) (by kernel_rfl) (fun _ _ _ h => h) rfl ?_ hHeld ?_
        rotate_left
        · (intro wq hSq; have q0 := (World.cell?_of_block (w := w5) (a := ⟨p, 1, none⟩) hSq.1).trans b1; have q1 := (World.cell?_of_block (w := w5) (a := ⟨fb, fo + j * 3, none⟩) hSq.2).trans f1; have q2 := (World.cell?_of_block (w := w5) (a := ⟨fb, fo + j * 3 + 1, none⟩) hSq.2).trans f2; have q3 := (World.cell?_of_block (w := w5) (a := ⟨fb, fo + j * 3 + 2, none⟩) hSq.2).trans f3; go_simp <;> first | with_reducible rfl | rfl)
        simp only [Act.put, List.setIfInBounds_toArray, List.set_cons_zero, List.set_cons_succ]
        refine take_on (i := 9) (v := ?_) rfl rfl (by kernel_rfl) (by kernel_rfl) (by kernel_rfl) (fun _ _ _ h => h) rfl ?_ hHeld ?_
        rotate_left
        · (intro wq hSq; have q0 := (World.cell?_of_block (w := w5) (a := ⟨p, 1, none⟩) hSq.1).trans b1; have q1 := (World.cell?_of_block (w := w5) (a := ⟨fb, fo + j * 3, none⟩) hSq.2).trans f1; have q2 := (World.cell?_of_block (w := w5) (a := ⟨fb, fo + j * 3 + 1, none⟩) hSq.2).trans f2; have q3 := (World.cell?_of_block (w := w5) (a := ⟨fb, fo + j * 3 + 2, none⟩) hSq.2).trans f3; go_simp <;> first | with_reducible rfl | rfl)
        simp only [Act.put, List.setIfInBounds_toArray, List.set_cons_zero, List.set_cons_succ]
        refine take_on (i := 10) (v := ?_) rfl rfl (by kernel_rfl) (by kernel_rfl) (by kernel_rfl) (fun _ _ _ h => h) rfl ?_ hHeld ?_
        rotate_left
        · (intro wq hSq; have q0 := (World.cell?_of_block (w := w5) (a := ⟨p, 1, none⟩) hSq.1).trans b1; have q1 := (World.cell?_of_block (w := w5) (a := ⟨fb, fo + j * 3, none⟩) hSq.2).trans f1; have q2 := (World.cell?_of_block (w := w5) (a := ⟨fb, fo + j * 3 + 1, none⟩) hSq.2).trans f2; have q3 := (World.cell?_of_block (w := w5) (a := ⟨fb, fo + j * 3 + 2, none⟩) hSq.2).trans f3; go_simp <;> first | with_reducible rfl | rfl)
        simp only [Act.put, List.setIfInBounds_toArray, List.set_cons_zero, List.set_cons_succ]
        refine take_one (i := 11) rfl (by kernel_rfl) (fun K hK => ?_)
        go_simp
        skip
        try go_wp2_with fail
        refine hK.out _ _ ?_ (fun hHeld => ?_)
        · exact hkp
        clear hK K
        try simp only [Act.put, List.setIfInBounds_toArray, List.set_cons_zero, List.set_cons_succ]
        refine wpAnyH_done (by kernel_rfl) ?_ _
        clear hkp hHeld
        go_wp2_with fail
        go_roundw
        case rel =>
          refine ⟨j + 1, by omega, by go_num, ⟨C6, ?_⟩, hc6.out.drew⟩
          have h9 := hD6.out.drew
          rw [show ({ s j with fd := (f j).d, fk := (f j).k, ft := (f j).t, c := 0 } : Pt) = armX (s j) m f j by unfold armX; rw [if_pos hjm, if_pos hjm, if_pos hjm], armTo_succ] at h9
          exact h9
        case measure => simp [intOf]; omega
      · go_wp2_with fail
        go_roundw
        case rel =>
          refine ⟨j + 1, by omega, by go_num, ⟨C5, ?_⟩, hc5⟩
          rw [show ({ s j with fd := 0, fk := 0, ft := 0, c := 0 } : Pt) = armX (s j) m f j by unfold armX; rw [if_neg hjm, if_neg hjm, if_neg hjm], armTo_succ] at hD5
          exact hD5
        case measure => simp [intOf]; omega
    · obtain rfl : j = n := by omega
      go_wp2_with fail
      go_end0
      exact ⟨rfl, ⟨⟨_, _, _, _, hD.mono (fun _ hb => .inl hb) (fun b hb => by
        rcases hb with hb | hb
        · exact hD.lt b hb
        · exact hb.2)⟩, hc⟩⟩
end

end Go.Proofs.Ytdodnegdpdhbiaa
