/- The law on what is safe, walked. -/
import Derived.Test.YtjmfmbeijbbdoabSf8
namespace Go.Proofs.Ytjmfmbeijbbdoab.diskSafe
open Go.RowKit

set_option maxRecDepth 100000 in
set_option maxHeartbeats 6400000 in
theorem walk (a : Option Addr) (n c : Nat) (A : Nat → Cal) (fa : Option Addr) (fn fc : Nat) (f : Nat → Fte) (w : World) (hs : CameCal w a n A) (hff : CameFte w fa fn f) :
    Calls Try.prog 4 #[.slice a n c, .slice fa fn fc] w fun e w' => e = .returned (.bool true) ∧ Below w.heap.size w w' := by
  obtain ⟨W0, hW0⟩ : ∃ W0, W0 = w.alloc (.cells #[.slice a n c] 22) := ⟨_, rfl⟩
  have hb0 : Below w.heap.size w W0 := by rw [hW0]; exact (Below.refl _ _).alloc (Nat.le_refl _) _
  have hq0 : W0.heap[w.heap.size]? = some (.cells #[.slice a n c] 22 (0, 0)) := by rw [hW0]; exact heap_alloc_new w _
  have hva := vast_any w.heap.size 1 1 (fun _ => ⟨a, n, c, A⟩) W0 (by omega) (Array.getElem?_eq_some_iff.1 hq0).1 (fun i hi => by
    obtain rfl : i = 0 := by omega
    exact cell_of_row _ _ _ _ _ _ hq0) (fun i hi => hs.below hb0)
  have httl : ttl (fun _ => (⟨a, n, c, A⟩ : Scr)) 1 = tot A n := by simp [ttl]
  rw [httl] at hva
  go_enter Try.func4, Try.ntmps4
  go_wp2_with fail
  rw [← hW0]
  clear hW0 hq0 httl
  refine hva.mono ?_
  rintro e w2 ⟨⟨b, rfl, hT⟩, hb2⟩
  have hbw2 := hb0.trans (hb2.mono hb0.size)
  clear hva hb0 hb2
  cases b with
  | true =>
    clear hT hs hff
    go_wp2_with fail
    go_ret
    exact ⟨rfl, hbw2⟩
  | false =>
    replace hT := hide_it (hT rfl)
    have hnew := newD_any 2 w2
    go_wp2_with fail
    refine hnew.mono ?_
    intro e w3 hN
    cases hN with
    | no h1 _ _ => omega
    | ok m hm _ hM =>
      obtain rfl : m = 2 := by omega
      obtain ⟨p, rfl, hN3⟩ := hM.nd (Below.refl w2.heap.size w2)
      clear hnew hM hm
      have hfx := fixed_any w3
      go_wp2_with fail
      refine hfx.mono ?_
      rintro e w4 ⟨rfl, hb4⟩
      have hN4 := hN3.below hb4
      have hn := hs.size
      obtain ⟨F4, hD4, hF4⟩ := hN4.ex
      have hbA : Below w4.heap.size w4 (w4.alloc (.cells #[.slice none 0 0, .slice none 0 0] 50)) := (Below.refl _ _).alloc (Nat.le_refl _) _
      have hSf : Sf w2 (w4.alloc (.cells #[.slice none 0 0, .slice none 0 0] 50)) F4 p false (fun _ => ⟨0, [], 0, 0, 0, 0, 0⟩) 0 w4.heap.size (fun _ => .slice none 0 0) (fun _ => []) :=
        ⟨hD4.below hbA, hF4, fun h => by have := hD4.lt _ h; omega, hN4.bel.size, heap_alloc_new w4 _, fun _ _ => OwB.nil _ _, (fun _ _ j hj => by cases hj), fun _ _ => Pre.none _, Bnd.new 2, hN4.bel.trans (hbA.mono hN4.bel.size)⟩
      obtain ⟨g, hg⟩ : ∃ g, g = w4.heap.size := ⟨_, rfl⟩
      rw [← hg] at hSf
      replace hSf := hide_it hSf
      clear hfx hN3 hb4 hN4 hD4 hF4 hbA
      go_wp2_with fail
      rw [← hg]
      clear hg
      go_loopw [35] (fun i wr => ∃ j : Nat, j ≤ n ∧ i = .int .i64 (j : Int) ∧ Hid (∃ F am s r z, Sf w2 wr F p am s (tot A j) g r z)) (fun i _ => n - (intOf i).toNat)
      case atStart => exact ⟨0, by omega, rfl, ⟨_, _, _, _, _, hSf.out⟩⟩
      case round =>
        obtain ⟨j, hj, rfl, hR⟩ := hrel
        obtain ⟨F, am, s, r, z, hS⟩ := hR.out
        clear hR hSf
        have hbw := hbw2.trans (hS.bel.mono hbw2.size)
        by_cases hlt : j < n
        · clear hff
          obtain ⟨b, o, rfl, hbb, d1, d2, d3, d4, d5, d6⟩ := hs.row.here hlt
          have c1 := (hbw.cell (p := ⟨b, o + j * 6, none⟩) hbb).trans d1
          have c2 := (hbw.cell (p := ⟨b, o + j * 6 + 1, none⟩) hbb).trans d2
          have c3 := (hbw.cell (p := ⟨b, o + j * 6 + 2, none⟩) hbb).trans d3
          have c4 := (hbw.cell (p := ⟨b, o + j * 6 + 3, none⟩) hbb).trans d4
          have c5 := (hbw.cell (p := ⟨b, o + j * 6 + 4, none⟩) hbb).trans d5
          have c6 := (hbw.cell (p := ⟨b, o + j * 6 + 5, none⟩) hbb).trans d6
          have hlow := (hs.low hlt).imp (fun e => e) fun h ad e => Nat.lt_of_lt_of_le (h ad e) hbw2.size
          have hxo := (hs.each j hlt).below hbw
          have hto : tot A (j + 1) = tot A j + (1 + (A j).p.p.length) := rfl
          have htm : tot A (j + 1) ≤ tot A n := tot_mono A hlt
          obtain ⟨x, hx⟩ : ∃ x, x = A j := ⟨_, rfl⟩
          rw [← hx] at c1 c2 c3 c4 c5 c6 hxo hto hlow
          clear d1 d2 d3 d4 d5 d6 hx
          obtain ⟨X, hX⟩ : ∃ X, X = wr.heap.size := ⟨_, rfl⟩
          obtain ⟨WB, hWB⟩ : ∃ W, W = wr.alloc (.cells #[.int .i64 x.k, .int .i64 x.i, .int .i64 x.a, .int .i64 x.b, .slice x.p.a x.p.p.length x.p.c, .slice x.fa x.fn x.fc] 34) := ⟨_, rfl⟩
          have hbB : Below wr.heap.size wr WB := by rw [hWB]; exact (Below.refl _ _).alloc (Nat.le_refl _) _
          have hbx : BoxC WB X x := by rw [hWB, hX]; exact heap_alloc_new wr _
          have hXl : X < WB.heap.size := (Array.getElem?_eq_some_iff.1 hbx).1
          have hSB := hS.below hbB
          have hXF : ¬ F X := fun h => by have := hS.dsk.lt X h; omega
          by_cases h2 : x.k = 2
          · have hfin := hide_it (show ∃ F am s r z, Sf w2 WB F p am s (tot A (j + 1)) g r z from ⟨_, _, _, _, _, hSB.more (by omega)⟩)
            rw [hWB] at hfin
            have h2b : (x.k == 2) = true := by rw [h2]; rfl
            clear h2
            clear hs hxo hS hbw hSB hbB hWB hbx hXl hXF hlow hto htm hX
            go_wp2_with fail
            go_roundw
            case rel => exact ⟨j + 1, by omega, by go_num, hfin.out⟩
            case measure => simp [intOf]; omega
          · by_cases h3 : x.k = 3
            · have hfin := hide_it (show ∃ F am s r z, Sf w2 WB F p am s (tot A (j + 1)) g r z from ⟨_, _, _, _, _, hSB.more (by omega)⟩)
              rw [hWB] at hfin
              have h2b : (x.k == 2) = false := by simpa using h2
              have h3b : (x.k == 3) = true := by rw [h3]; rfl
              clear h2 h3
              clear hs hxo hS hbw hSB hbB hWB hbx hXl hXF hlow hto htm hX
              go_wp2_with fail
              go_roundw
              case rel => exact ⟨j + 1, by omega, by go_num, hfin.out⟩
              case measure => simp [intOf]; omega
            · have hxB := hxo.below hbB
              have hcl := call_any hSB.dsk x hxB (hlow.imp (fun e => e) fun h ad e hF => by have := h ad e; have := hSB.foot _ hF; omega) _ hSB.bnd (by have := hT.out; omega)
              have hBn := hSB.bnd.call am x hSB.dsk.le
              rw [show tot A j + 1 + x.p.p.length = tot A (j + 1) by omega] at hBn
              have hpr := Pre.call hSB.pre hSB.dsk.le am x h2 h3
              have hle0 := hSB.dsk.le
              obtain ⟨A1, hA1⟩ : ∃ A1, A1 = (calS am 2 s x).1 := ⟨_, rfl⟩
              obtain ⟨am1, ham1⟩ : ∃ a, a = (calS am 2 s x).2.1 := ⟨_, rfl⟩
              obtain ⟨s1, hs1⟩ : ∃ a, a = (calS am 2 s x).2.2 := ⟨_, rfl⟩
              have hp8 : x.k = 8 → ∀ i, i < 2 → (s1 i).k = (s1 i).bs.length := fun e i hi => by
                have h9 : s1 = strS s 2 := by rw [hs1]; unfold calS; simp [e]
                rw [h9]
                exact strike_full (hle0 i hi) hi
              have hp1 : x.k = 1 → A1.E = 0 → 0 ≤ x.i ∧ x.i < 2 ∧ (s1 x.i.toNat).k = (s1 x.i.toNat).bs.length := fun e he => by
                rw [hs1]
                rw [hA1] at he
                exact sync_full am s x e he
              rw [← hA1, ← ham1, ← hs1] at hcl
              rw [← hs1] at hBn hpr
              rw [hWB] at hcl
              replace hWB := hide_it hWB
              have hall := hide_it (And.intro hSB (And.intro hBn (And.intro hpr (And.intro hp8 hp1))))
              replace hto := hide_it hto
              replace htm := hide_it htm
              replace hX := hide_it hX
              have hgw0 := hide_it hS.glt
              have h2b : (x.k == 2) = false := by simpa using h2
              have h3b : (x.k == 3) = false := by simpa using h3
              clear hs hxo hS hbw hSB hbB hBn hpr hp8 hp1 hA1 ham1 hs1 hxB hlow hle0 h2 h3
              go_wp2_with fail
              refine hcl.mono ?_
              rintro e w6 ⟨⟨v, rfl, hv⟩, hwt⟩
              rw [← hWB.out] at hwt hv
              obtain ⟨hSB, hBn, hpr, hp8, hp1⟩ := hall.out
              have hS6 := hSB.went hwt hpr hBn
              have hbx6 : BoxC w6 X x := (hwt.chg.block X hXl hXF).trans hbx
              obtain ⟨pa, pc, sa, sc, rfl, _⟩ := hv.ex
              obtain ⟨WT, hWT⟩ : ∃ W, W = w6.alloc (.cells #[.int .i64 A1.E, .int .i64 A1.X, .int .i64 A1.Y, .int .i64 A1.Z, .slice pa A1.P.length pc, .slice sa A1.n sc] 37) := ⟨_, rfl⟩
              have hbT : Below w6.heap.size w6 WT := by rw [hWT]; exact (Below.refl _ _).alloc (Nat.le_refl _) _
              have hnT : WT.heap[w6.heap.size]? = some (.cells #[.int .i64 A1.E, .int .i64 A1.X, .int .i64 A1.Y, .int .i64 A1.Z, .slice pa A1.P.length pc, .slice sa A1.n sc] 37 (0, 0)) := by rw [hWT]; exact heap_alloc_new w6 _
              have hST := hS6.below hbT
              have hXl6 : X < w6.heap.size := (Array.getElem?_eq_some_iff.1 hbx6).1
              have hbxT : BoxC WT X x := (hbT.block X hXl6).trans hbx6
              obtain ⟨F6, hF6⟩ : ∃ F6, F6 = upto F WB w6 := ⟨_, rfl⟩
              rw [← hF6] at hST
              obtain ⟨t1, t2, t3, t4, t5, t6⟩ := hbx6.cells
              have hgw : g < wr.heap.size := hgw0.out
              have hXX := hX.out
              subst hXX
              replace hWT := hide_it hWT
              replace hST := hide_it hST
              replace hp8 := hide_it hp8
              replace hp1 := hide_it hp1
              clear hcl hall hSB hwt hv hS6 hBn hpr hF6 hbx hXF c1 c2 c3 c4 c5 c6 hto htm
              by_cases h8 : x.k = 8
              · have hfu := hp8.out h8
                have h8b : (x.k == 8) = true := by rw [h8]; rfl
                have h1c : (x.k == 1) = false := by rw [h8]; rfl
                obtain ⟨X, hXq⟩ : ∃ X, X = wr.heap.size := ⟨_, rfl⟩
                have hXg : X ≠ g := fun e => by have := hgw; omega
                have hl0 := hide_it (show ∃ r z, Sf w2 WT F6 p am1 s1 (tot A (j + 1)) g r z ∧ BoxC WT X x from ⟨_, _, hST.out, by rw [hXq]; exact hbxT⟩)
                rw [hWT.out] at hl0
                replace hfu := hide_it hfu
                clear hST hp8 hp1 hbT hWT hnT hbxT h8
                go_wp2_with fail
                rw [← hXq]
                clear hXq t1 t2 t3 t4 t5 t6
                go_loopw [53] (fun q wq => ∃ m : Nat, m ≤ 2 ∧ q = .int .i64 (m : Int) ∧ Hid (∃ r z, Sf w2 wq F6 p am1 s1 (tot A (j + 1)) g r z ∧ BoxC wq X x)) (fun q _ => 2 - (intOf q).toNat)
                case atStart => exact ⟨0, by omega, rfl, hl0.out⟩
                case round =>
                  obtain ⟨m, hm, rfl, hQ⟩ := hrel
                  obtain ⟨r, z, hS, hbq⟩ := hQ.out
                  clear hQ hl0
                  by_cases hml : m < 2
                  · have hby := bytesOf_any hS.dsk m hml
                    have hku := hfu.out m hml
                    rw [hku] at hby
                    obtain ⟨hz1, hz2⟩ := hS.pre m hml
                    have hll := (hS.dsk.room m hml).1
                    have hFl := hS.dsk.lt
                    obtain ⟨L, hL⟩ : ∃ L, L = (s1 m).bs.length := ⟨_, rfl⟩
                    rw [hku, ← hL] at hz1
                    rw [← hL] at hby hll
                    replace hL := hide_it hL
                    replace hku := hide_it hku
                    replace hS := hide_it hS
                    replace hbq := hide_it hbq
                    go_wp2_with fail
                    refine hby.mono ?_
                    rintro e w7 ⟨⟨ra, rc, rfl, ho7⟩, hb7⟩
                    have hS7 := hS.out.below hb7
                    obtain ⟨za, zc, e1, hr1, hc1, y1, y2, hn1⟩ := hS7.at_ hml
                    have hb7s := hb7.size
                    obtain ⟨q1, q2, q3, q4, q5, _⟩ := ho7.row
                    rw [← hL.out] at q3
                    cases q3
                    rw [← hL.out] at q5
                    have hrt : RowB w7 ra (z m) := by
                      have h9 := (OwB.take (m := (z m).length) (zs := (s1 m).bs) (by rw [← hL.out]; exact ho7) (by rw [← hL.out]; exact hz1)).row
                      rw [hz2] at h9
                      obtain ⟨k1, k2, k3, k4, _⟩ := h9
                      cases k3
                      exact k4
                    have hZL : (z m).length ≤ 211106232532800 := by omega
                    have hbq7 : BoxC w7 X x := (hb7.block _ (Array.getElem?_eq_some_iff.1 hbq.out).1).trans hbq.out
                    have hgl7 := hS7.glt
                    have heq := fun W (hb : Below w7.heap.size w7 W) => equal_same ra za (z m).length rc zc (z m) W (hrt.below hb) (hr1.below hb) rfl hZL
                    obtain ⟨Z, hZ⟩ : ∃ Z, Z = (z m).length := ⟨_, rfl⟩
                    rw [← hZ] at heq y1 hz1
                    have x1 : ¬ L < Z := by omega
                    have x2 : Z ≤ rc := by omega
                    have x3 : (Z : Int) ≤ (rc : Int) := by omega
                    have x4 : (0 : Int) ≤ (Z : Int) := by omega
                    replace hS7 := hide_it hS7
                    replace ho7 := hide_it ho7
                    replace hbq7 := hide_it hbq7
                    clear hZ hrt hr1 hS q4 hz2 hb7 hbq e1 hn1 y2
                    go_wp2_with fail
                    refine wp_calm ?_
                    refine wp_region_held_drew (S := (fun w' => Below w7.heap.size w7 w')) (by kernel_rfl) ?_ (fun hHeld => ?_)
                    · exact (Below.refl _ _).drew
                    refine take_on (i := 0) (v := ?_) rfl rfl (by kernel_rfl) (by kernel_rfl) (by kernel_rfl) (fun _ _ _ h => h) rfl ?_ hHeld ?_
                    rotate_left
                    · (intro wq hSq; have g1 := (hSq.cell (p := ⟨g, m, none⟩) hgl7).trans y1; go_simp <;> first | with_reducible rfl | rfl)
                    simp only [Act.put, List.setIfInBounds_toArray, List.set_cons_zero, List.set_cons_succ]
                    refine take_on (i := 1) (v := ?_) rfl rfl (by kernel_rfl) (by kernel_rfl) (by kernel_rfl) (fun _ _ _ h => h) rfl ?_ hHeld ?_
                    rotate_left
                    · (intro wq hSq; have g1 := (hSq.cell (p := ⟨g, m, none⟩) hgl7).trans y1; go_simp <;> first | with_reducible rfl | rfl)
                    simp only [Act.put, List.setIfInBounds_toArray, List.set_cons_zero, List.set_cons_succ]
                    refine take_on (i := 2) (v := ?_) rfl rfl (by kernel_rfl) (by kernel_rfl) (by kernel_rfl) (fun _ _ _ h => h) rfl ?_ hHeld ?_
                    rotate_left
                    · (intro wq hSq; have g1 := (hSq.cell (p := ⟨g, m, none⟩) hgl7).trans y1; go_simp <;> first | with_reducible rfl | rfl)
                    simp only [Act.put, List.setIfInBounds_toArray, List.set_cons_zero, List.set_cons_succ]
                    refine take_on (i := 3) (v := ?_) rfl rfl (by kernel_rfl) (by kernel_rfl) (by kernel_rfl) (fun _ _ _ h => h) rfl ?_ hHeld ?_
                    rotate_left
                    · (intro wq hSq; have g1 := (hSq.cell (p := ⟨g, m, none⟩) hgl7).trans y1; go_simp <;> first | with_reducible rfl | rfl)
                    simp only [Act.put, List.setIfInBounds_toArray, List.set_cons_zero, List.set_cons_succ]
                    refine take_on (i := 4) (v := ?_) rfl rfl (by kernel_rfl) (by kernel_rfl) (by kernel_rfl) (fun _ _ _ h => h) rfl ?_ hHeld ?_
                    rotate_left
                    · (intro wq hSq; have g1 := (hSq.cell (p := ⟨g, m, none⟩) hgl7).trans y1; go_simp <;> first | with_reducible rfl | rfl)
                    simp only [Act.put, List.setIfInBounds_toArray, List.set_cons_zero, List.set_cons_succ]
                    refine take_on (i := 5) (v := ?_) rfl rfl (by kernel_rfl) (by kernel_rfl) (by kernel_rfl) (fun _ _ _ h => h) rfl ?_ hHeld ?_
                    rotate_left
                    · (intro wq hSq; have g1 := (hSq.cell (p := ⟨g, m, none⟩) hgl7).trans y1; go_simp <;> first | with_reducible rfl | rfl)
                    simp only [Act.put, List.setIfInBounds_toArray, List.set_cons_zero, List.set_cons_succ]
                    refine take_on (i := 6) (v := ?_) rfl rfl (by kernel_rfl) (by kernel_rfl) (by kernel_rfl) (fun _ _ _ h => h) rfl ?_ hHeld ?_
                    rotate_left
                    · (intro wq hSq; have g1 := (hSq.cell (p := ⟨g, m, none⟩) hgl7).trans y1; go_simp <;> first | with_reducible rfl | rfl)
                    simp only [Act.put, List.setIfInBounds_toArray, List.set_cons_zero, List.set_cons_succ]
                    refine take_on (i := 7) (v := ?_) rfl rfl (by kernel_rfl) (by kernel_rfl) (by kernel_rfl) (fun _ _ _ h => h) rfl ?_ hHeld ?_
                    rotate_left
                    · (intro wq hSq; have g1 := (hSq.cell (p := ⟨g, m, none⟩) hgl7).trans y1; go_simp <;> first | with_reducible rfl | rfl)
                    simp only [Act.put, List.setIfInBounds_toArray, List.set_cons_zero, List.set_cons_succ]
                    refine take_on (i := 8) (v := ?_) rfl rfl (by kernel_rfl) (by kernel_rfl) (by kernel_rfl) (fun _ _ _ h => h) rfl ?_ hHeld ?_
                    rotate_left
                    · (intro wq hSq; have g1 := (hSq.cell (p := ⟨g, m, none⟩) hgl7).trans y1; go_simp <;> first | with_reducible rfl | rfl)
                    simp only [Act.put, List.setIfInBounds_toArray, List.set_cons_zero, List.set_cons_succ]
                    refine take_on (i := 9) (v := ?_) rfl rfl (by kernel_rfl) (by kernel_rfl) (by kernel_rfl) (fun _ _ _ h => h) rfl ?_ hHeld ?_
                    rotate_left
                    · (intro wq hSq; have g1 := (hSq.cell (p := ⟨g, m, none⟩) hgl7).trans y1; go_simp <;> first | with_reducible rfl | rfl)
                    simp only [Act.put, List.setIfInBounds_toArray, List.set_cons_zero, List.set_cons_succ]
                    refine take_on (i := 10) (v := ?_) rfl rfl (by kernel_rfl) (by kernel_rfl) (by kernel_rfl) (fun _ _ _ h => h) rfl ?_ hHeld ?_
                    rotate_left
                    · (intro wq hSq; have g1 := (hSq.cell (p := ⟨g, m, none⟩) hgl7).trans y1; go_simp <;> first | with_reducible rfl | rfl)
                    simp only [Act.put, List.setIfInBounds_toArray, List.set_cons_zero, List.set_cons_succ]
                    refine take_on (i := 11) (v := ?_) rfl rfl (by kernel_rfl) (by kernel_rfl) (by kernel_rfl) (fun _ _ _ h => h) rfl ?_ hHeld ?_
                    rotate_left
                    · (intro wq hSq; have g1 := (hSq.cell (p := ⟨g, m, none⟩) hgl7).trans y1; go_simp <;> first | with_reducible rfl | rfl)
                    simp only [Act.put, List.setIfInBounds_toArray, List.set_cons_zero, List.set_cons_succ]
                    refine take_on (i := 12) (v := ?_) rfl rfl (by kernel_rfl) (by kernel_rfl) (by kernel_rfl) (fun _ _ _ h => h) rfl ?_ hHeld ?_
                    rotate_left
                    · (intro wq hSq; have g1 := (hSq.cell (p := ⟨g, m, none⟩) hgl7).trans y1; go_simp <;> first | with_reducible rfl | rfl)
                    simp only [Act.put, List.setIfInBounds_toArray, List.set_cons_zero, List.set_cons_succ]
                    refine take_on (i := 13) (v := ?_) rfl rfl (by kernel_rfl) (by kernel_rfl) (by kernel_rfl) (fun _ _ _ h => h) rfl ?_ hHeld ?_
                    rotate_left
                    · (intro wq hSq; have g1 := (hSq.cell (p := ⟨g, m, none⟩) hgl7).trans y1; go_simp <;> first | with_reducible rfl | rfl)
                    simp only [Act.put, List.setIfInBounds_toArray, List.set_cons_zero, List.set_cons_succ]
                    refine take_on (i := 14) (v := ?_) rfl rfl (by kernel_rfl) (by kernel_rfl) (by kernel_rfl) (fun _ _ _ h => h) rfl ?_ hHeld ?_
                    rotate_left
                    · (intro wq hSq; have g1 := (hSq.cell (p := ⟨g, m, none⟩) hgl7).trans y1; go_simp <;> first | with_reducible rfl | rfl)
                    simp only [Act.put, List.setIfInBounds_toArray, List.set_cons_zero, List.set_cons_succ]
                    refine take_on (i := 15) (v := ?_) rfl rfl (by kernel_rfl) (by kernel_rfl) (by kernel_rfl) (fun _ _ _ h => h) rfl ?_ hHeld ?_
                    rotate_left
                    · (intro wq hSq; have g1 := (hSq.cell (p := ⟨g, m, none⟩) hgl7).trans y1; go_simp <;> first | with_reducible rfl | rfl)
                    simp only [Act.put, List.setIfInBounds_toArray, List.set_cons_zero, List.set_cons_succ]
                    refine take_on (i := 16) (v := ?_) rfl rfl (by kernel_rfl) (by kernel_rfl) (by kernel_rfl) (fun _ _ _ h => h) rfl ?_ hHeld ?_
                    rotate_left
                    · (intro wq hSq; have g1 := (hSq.cell (p := ⟨g, m, none⟩) hgl7).trans y1; go_simp <;> first | with_reducible rfl | rfl)
                    simp only [Act.put, List.setIfInBounds_toArray, List.set_cons_zero, List.set_cons_succ]
                    refine take_on (i := 17) (v := ?_) rfl rfl (by kernel_rfl) (by kernel_rfl) (by kernel_rfl) (fun _ _ _ h => h) rfl ?_ hHeld ?_
                    rotate_left
                    · (intro wq hSq; have g1 := (hSq.cell (p := ⟨g, m, none⟩) hgl7).trans y1; go_simp <;> first | with_reducible rfl | rfl)
                    simp only [Act.put, List.setIfInBounds_toArray, List.set_cons_zero, List.set_cons_succ]
                    refine take_on (i := 18) (v := ?_) rfl rfl (by kernel_rfl) (by kernel_rfl) (by kernel_rfl) (fun _ _ _ h => h) rfl ?_ hHeld ?_
                    rotate_left
                    · (intro wq hSq; have g1 := (hSq.cell (p := ⟨g, m, none⟩) hgl7).trans y1; go_simp <;> first | with_reducible rfl | rfl)
                    simp only [Act.put, List.setIfInBounds_toArray, List.set_cons_zero, List.set_cons_succ]
                    refine take_on (i := 19) (v := ?_) rfl rfl (by kernel_rfl) (by kernel_rfl) (by kernel_rfl) (fun _ _ _ h => h) rfl ?_ hHeld ?_
                    rotate_left
                    · (intro wq hSq; have g1 := (hSq.cell (p := ⟨g, m, none⟩) hgl7).trans y1; go_simp <;> first | with_reducible rfl | rfl)
                    simp only [Act.put, List.setIfInBounds_toArray, List.set_cons_zero, List.set_cons_succ]
                    refine take_on (i := 20) (v := ?_) rfl rfl (by kernel_rfl) (by kernel_rfl) (by kernel_rfl) (fun _ _ _ h => h) rfl ?_ hHeld ?_
                    rotate_left
                    · (intro wq hSq; have g1 := (hSq.cell (p := ⟨g, m, none⟩) hgl7).trans y1; go_simp <;> first | with_reducible rfl | rfl)
                    simp only [Act.put, List.setIfInBounds_toArray, List.set_cons_zero, List.set_cons_succ]
                    refine take_on (i := 21) (v := ?_) rfl rfl (by kernel_rfl) (by kernel_rfl) (by kernel_rfl) (fun _ _ _ h => h) rfl ?_ hHeld ?_
                    rotate_left
                    · (intro wq hSq; have g1 := (hSq.cell (p := ⟨g, m, none⟩) hgl7).trans y1; go_simp <;> first | with_reducible rfl | rfl)
                    simp only [Act.put, List.setIfInBounds_toArray, List.set_cons_zero, List.set_cons_succ]
                    refine take_on (i := 22) (v := ?_) rfl rfl (by kernel_rfl) (by kernel_rfl) (by kernel_rfl) (fun _ _ _ h => h) rfl ?_ hHeld ?_
                    rotate_left
                    · (intro wq hSq; have g1 := (hSq.cell (p := ⟨g, m, none⟩) hgl7).trans y1; go_simp <;> first | with_reducible rfl | rfl)
                    simp only [Act.put, List.setIfInBounds_toArray, List.set_cons_zero, List.set_cons_succ]
                    refine take_on (i := 23) (v := ?_) rfl rfl (by kernel_rfl) (by kernel_rfl) (by kernel_rfl) (fun _ _ _ h => h) rfl ?_ hHeld ?_
                    rotate_left
                    · (intro wq hSq; have g1 := (hSq.cell (p := ⟨g, m, none⟩) hgl7).trans y1; go_simp <;> first | with_reducible rfl | rfl)
                    simp only [Act.put, List.setIfInBounds_toArray, List.set_cons_zero, List.set_cons_succ]
                    refine take_on (i := 24) (v := ?_) rfl rfl (by kernel_rfl) (by kernel_rfl) (by kernel_rfl) (fun _ _ _ h => h) rfl ?_ hHeld ?_
                    rotate_left
                    · (intro wq hSq; have g1 := (hSq.cell (p := ⟨g, m, none⟩) hgl7).trans y1; go_simp <;> first | with_reducible rfl | rfl)
                    simp only [Act.put, List.setIfInBounds_toArray, List.set_cons_zero, List.set_cons_succ]
                    refine take_on (i := 25) (v := ?_) rfl rfl (by kernel_rfl) (by kernel_rfl) (by kernel_rfl) (fun _ _ _ h => h) rfl ?_ hHeld ?_
                    rotate_left
                    · (intro wq hSq; have g1 := (hSq.cell (p := ⟨g, m, none⟩) hgl7).trans y1; go_simp <;> first | with_reducible rfl | rfl)
                    simp only [Act.put, List.setIfInBounds_toArray, List.set_cons_zero, List.set_cons_succ]
                    refine take_on (i := 26) (v := ?_) rfl rfl (by kernel_rfl) (by kernel_rfl) (by kernel_rfl) (fun _ _ _ h => h) rfl ?_ hHeld ?_
                    rotate_left
                    · (intro wq hSq; have g1 := (hSq.cell (p := ⟨g, m, none⟩) hgl7).trans y1; go_simp <;> first | with_reducible rfl | rfl)
                    simp only [Act.put, List.setIfInBounds_toArray, List.set_cons_zero, List.set_cons_succ]
                    refine take_one (i := 27) rfl (by kernel_rfl) (fun K hK => ?_)
                    go_simp
                    refine (heq _ hHeld).mono ?_; rintro e y8 ⟨rfl, hb8⟩; have hy8 := hHeld.trans (hb8.mono hHeld.size)
                    try go_wp2_with fail
                    refine hK.out _ _ ?_ (fun hHeld => ?_)
                    · exact hy8
                    clear hK K
                    try simp only [Act.put, List.setIfInBounds_toArray, List.set_cons_zero, List.set_cons_succ]
                    refine take_on (i := 28) (v := ?_) rfl rfl (by kernel_rfl) (by kernel_rfl) (by kernel_rfl) (fun _ _ _ h => h) rfl ?_ hHeld ?_
                    rotate_left
                    · (intro wq hSq; have g1 := (hSq.cell (p := ⟨g, m, none⟩) hgl7).trans y1; go_simp <;> first | with_reducible rfl | rfl)
                    simp only [Act.put, List.setIfInBounds_toArray, List.set_cons_zero, List.set_cons_succ]
                    refine take_on (i := 29) (v := ?_) rfl rfl (by kernel_rfl) (by kernel_rfl) (by kernel_rfl) (fun _ _ _ h => h) rfl ?_ hHeld ?_
                    rotate_left
                    · (intro wq hSq; have g1 := (hSq.cell (p := ⟨g, m, none⟩) hgl7).trans y1; go_simp <;> first | with_reducible rfl | rfl)
                    simp only [Act.put, List.setIfInBounds_toArray, List.set_cons_zero, List.set_cons_succ]
                    refine wpAnyH_done (by kernel_rfl) ?_ _
                    have hSy := hS7.out.below hHeld
                    have hput := hSy.put hml (u := .slice ra L rc) (bs := (s1 m).bs) ((ho7.out.below hHeld).mono (Nat.zero_le _)) (fun j' hj' hF' => by have h5 := (ho7.out.inside j' hj').1; have h6 := hFl j' hF'; omega) (Pre.full hku.out)
                    obtain ⟨za2, zc2, _, _, _, v1, v2, _⟩ := hSy.at_ hml
                    have hbqy : BoxC (y8.setCell ⟨g, m, none⟩ (.slice ra L rc)) X x := (Below.heap_setCell _ _ _ _ hXg).trans ((hHeld.block _ (Array.getElem?_eq_some_iff.1 hbq7.out).1).trans hbq7.out)
                    have hfin2 := hide_it (show ∃ r z, Sf w2 (y8.setCell ⟨g, m, none⟩ (.slice ra L rc)) F6 p am1 s1 (tot A (j + 1)) g r z ∧ BoxC (y8.setCell ⟨g, m, none⟩ (.slice ra L rc)) X x from ⟨_, _, hput, hbqy⟩)
                    clear hSy hput hbqy hS7 ho7 hbq7 heq hHeld hb8 hy8 y1
                    go_wp2_with fail
                    go_roundw
                    case rel => exact ⟨m + 1, by omega, by go_num, hfin2.out⟩
                    case measure => simp [intOf]; omega
                  · obtain ⟨t1, t2, t3, t4, t5, t6⟩ := hbq.cells
                    have hfin := hide_it (show ∃ F am s r z, Sf w2 wr F p am s (tot A (j + 1)) g r z from ⟨_, _, _, _, _, hS⟩)
                    clear hS hbq
                    go_wp2_with fail
                    go_roundw
                    case rel => exact ⟨j + 1, by omega, by go_num, hfin.out⟩
                    case measure => simp [intOf]; omega
              · by_cases h1 : x.k = 1 ∧ A1.E = 0
                · obtain ⟨h1a, h1e⟩ := h1
                  obtain ⟨i0, i2, hku⟩ := hp1.out h1a h1e
                  have h8b : (x.k == 8) = false := by simpa using h8
                  have h1c : (x.k == 1) = true := by rw [h1a]; rfl
                  have h1d : (A1.E == 0) = true := by rw [h1e]; rfl
                  have hil : x.i.toNat < 2 := by omega
                  have hby := bytesOf_any hST.out.dsk x.i.toNat hil
                  rw [show ((x.i.toNat : Nat) : Int) = x.i by omega, hku] at hby
                  have hFl := hST.out.dsk.lt
                  obtain ⟨L, hL⟩ : ∃ L, L = (s1 x.i.toNat).bs.length := ⟨_, rfl⟩
                  rw [← hL] at hby
                  rw [hWT.out] at hby
                  replace hL := hide_it hL
                  replace hku := hide_it hku
                  obtain ⟨z1, z2, z3, z4, z5, z6⟩ := hbxT.cells
                  replace hbxT := hide_it hbxT
                  clear hp8 hp1 h8 h1a h1e
                  go_wp2_with fail
                  refine hby.mono ?_
                  rintro e w7 ⟨⟨ra, rc, rfl, ho7⟩, hb7⟩
                  rw [← hWT.out] at hb7 ho7
                  have hS7 := hST.out.below hb7
                  have hbq7 : BoxC w7 wr.heap.size x := (hb7.block _ (Array.getElem?_eq_some_iff.1 hbxT.out).1).trans hbxT.out
                  obtain ⟨v1, v2, v3, v4, v5, v6⟩ := hbq7.cells
                  have hput := hS7.put hil (u := .slice ra L rc) (bs := (s1 x.i.toNat).bs) (ho7.mono (Nat.zero_le _)) (fun j' hj' hF' => by have h5 := (ho7.inside j' hj').1; have h6 := hFl j' hF'; omega) (Pre.full hku.out)
                  obtain ⟨za2, zc2, _, _, _, y1, y2, _⟩ := hS7.at_ hil
                  have hfin := hide_it (show ∃ F am s r z, Sf w2 (w7.setCell ⟨g, x.i.toNat, none⟩ (.slice ra L rc)) F p am s (tot A (j + 1)) g r z from ⟨_, _, _, _, _, hput⟩)
                  clear hby hS7 hput ho7 hb7 hST hbT hWT hnT hbxT hbq7 z1 z2 z3 z4 z5 z6
                  go_wp2_with fail
                  go_roundw
                  case rel => exact ⟨j + 1, by omega, by go_num, hfin.out⟩
                  case measure => simp [intOf]; omega
                · have hfin := hide_it (show ∃ F am s r z, Sf w2 WT F p am s (tot A (j + 1)) g r z from ⟨_, _, _, _, _, hST.out⟩)
                  rw [hWT.out] at hfin
                  clear hST hp8 hp1 hbT hWT hnT
                  have h8b : (x.k == 8) = false := by simpa using h8
                  clear h8
                  by_cases h1a : x.k = 1
                  · have h1b : (A1.E == 0) = false := by simpa using fun h => h1 ⟨h1a, h⟩
                    have h1c : (x.k == 1) = true := by rw [h1a]; rfl
                    clear h1 h1a
                    go_wp2_with fail
                    go_roundw
                    case rel => exact ⟨j + 1, by omega, by go_num, hfin.out⟩
                    case measure => simp [intOf]; omega
                  · have h1c : (x.k == 1) = false := by simpa using h1a
                    clear h1 h1a
                    go_wp2_with fail
                    go_roundw
                    case rel => exact ⟨j + 1, by omega, by go_num, hfin.out⟩
                    case measure => simp [intOf]; omega
        · clear hs
          have har := arm_ok hS.dsk fa fn fc f (hff.row.below hbw) (by
            rcases hff.row with h1 | ⟨b1, o1, e1, e2, _⟩
            · exact .inl h1
            · refine .inr fun ad e hF => ?_
              rw [e1] at e
              cases e
              have h5 := hS.foot _ hF
              have h6 := hbw2.size
              simp only at h5
              omega) (fun i hi => (hff.each i hi).t)
          replace hS := hide_it hS
          clear hff
          go_wp2_with fail
          refine har.mono ?_
          rintro e w5 ⟨rfl, hw5⟩
          have hS5 := hS.out.went hw5 (fun i hi => (hS.out.pre i hi).arm fn f 2) (hS.out.bnd.arm fn f 2)
          have hsk := strike_ok hS5.dsk
          replace hS5 := hide_it hS5
          clear har hw5 hS
          go_wp2_with fail
          refine hsk.mono ?_
          rintro e w6 ⟨rfl, hw6⟩
          have hS6 := hS5.out.went hw6 (fun i hi => (hS5.out.pre i hi).strike (hS5.out.dsk.le i hi) hi) (hS5.out.bnd.strike hS5.out.dsk.le)
          have him := imageD_ok hS6.dsk
          obtain ⟨R, hR⟩ : ∃ R, R = strS (armTo s fn f 2) 2 := ⟨_, rfl⟩
          rw [← hR] at him hS6
          replace hS6 := hide_it hS6
          clear hsk hw6 hS5 hR
          go_wp2_with fail
          refine him.mono ?_
          rintro e w7 ⟨⟨Y, rr, rfl, hSp⟩, hb7⟩
          have hS7 := hide_it (hS6.out.below hb7)
          replace hSp := hide_it hSp
          clear him hS6 hb7
          go_wp2_with fail
          go_loopw [133] (fun q wr => ∃ m : Nat, m ≤ 2 ∧ q = .int .i64 (m : Int) ∧ Hid (Below w7.heap.size w7 wr)) (fun q _ => 2 - (intOf q).toNat)
          case atStart => exact ⟨0, by omega, rfl, Below.refl _ _⟩
          case round =>
            obtain ⟨m, hm, rfl, hQ⟩ := hrel
            by_cases hml : m < 2
            · obtain ⟨za, zc, _, hr1, _, y1, _, _⟩ := (hS7.out.below hQ.out).at_ hml
              have hSq2 := hSp.out.below hQ.out
              obtain ⟨_, y2⟩ := hSq2.cells hml
              have hro := hSq2.own m hml
              obtain ⟨ia, ic, e2, hri, hci, _⟩ := hro.row
              rw [e2] at y2 hro
              obtain ⟨hz1, hz2⟩ := hS7.out.pre m hml
              have hrle := hS7.out.dsk.le m hml
              have hrl := (hS7.out.dsk.room m hml).1
              have hsl : (safeT R m).2.length = (R m).k := by show ((R m).bs.take (R m).k).length = _; rw [List.length_take, Nat.min_eq_left hrle]
              have htk : (safeT R m).2.take (z m).length = z m := by show ((R m).bs.take (R m).k).take _ = _; rw [List.take_take, Nat.min_eq_left hz1, hz2]
              have hrt : RowB wr ia (z m) := by
                have h9 := (OwB.take (m := (z m).length) hro (by rw [hsl]; exact hz1)).row
                rw [htk] at h9
                obtain ⟨k1, k2, k3, k4, _⟩ := h9
                cases k3
                exact k4
              have hgl7 := (hS7.out.below hQ.out).glt
              have hYl := hSq2.lt
              have hws := hQ.out.size
              have heq := fun W (hb : Below wr.heap.size wr W) => equal_same ia za (z m).length ic zc (z m) W (hrt.below hb) (hr1.below hb) rfl (by omega)
              rw [hsl] at y2 hci
              obtain ⟨Z, hZ⟩ : ∃ Z, Z = (z m).length := ⟨_, rfl⟩
              obtain ⟨LI, hLI⟩ : ∃ L, L = (R m).k := ⟨_, rfl⟩
              rw [← hZ] at heq y1 hz1
              rw [← hLI] at hz1 y2 hci
              have x1 : ¬ LI < Z := by omega
              have x2 : Z ≤ ic := by omega
              have x3 : (Z : Int) ≤ (ic : Int) := by omega
              have x4 : (0 : Int) ≤ (Z : Int) := by omega
              clear hZ hLI hrt hr1 hri hro hSq2 hz2 e2 hsl htk hrl hrle
              go_wp2_with fail
              refine wp_calm ?_
              refine wp_region_held_drew (S := (fun w' => Below wr.heap.size wr w')) (by kernel_rfl) ?_ (fun hHeld => ?_)
              · exact (Below.refl _ _).drew
              refine take_on (i := 0) (v := ?_) rfl rfl (by kernel_rfl) (by kernel_rfl) (by kernel_rfl) (fun _ _ _ h => h) rfl ?_ hHeld ?_
              rotate_left
              · (intro wq hSq; have g1 := (hSq.cell (p := ⟨g, m, none⟩) hgl7).trans y1; have g2 := (hSq.cell (p := ⟨Y, m * 2 + 1, none⟩) hYl).trans y2; go_simp <;> first | with_reducible rfl | rfl)
              simp only [Act.put, List.setIfInBounds_toArray, List.set_cons_zero, List.set_cons_succ]
              refine take_on (i := 1) (v := ?_) rfl rfl (by kernel_rfl) (by kernel_rfl) (by kernel_rfl) (fun _ _ _ h => h) rfl ?_ hHeld ?_
              rotate_left
              · (intro wq hSq; have g1 := (hSq.cell (p := ⟨g, m, none⟩) hgl7).trans y1; have g2 := (hSq.cell (p := ⟨Y, m * 2 + 1, none⟩) hYl).trans y2; go_simp <;> first | with_reducible rfl | rfl)
              simp only [Act.put, List.setIfInBounds_toArray, List.set_cons_zero, List.set_cons_succ]
              refine take_on (i := 2) (v := ?_) rfl rfl (by kernel_rfl) (by kernel_rfl) (by kernel_rfl) (fun _ _ _ h => h) rfl ?_ hHeld ?_
              rotate_left
              · (intro wq hSq; have g1 := (hSq.cell (p := ⟨g, m, none⟩) hgl7).trans y1; have g2 := (hSq.cell (p := ⟨Y, m * 2 + 1, none⟩) hYl).trans y2; go_simp <;> first | with_reducible rfl | rfl)
              simp only [Act.put, List.setIfInBounds_toArray, List.set_cons_zero, List.set_cons_succ]
              refine take_on (i := 3) (v := ?_) rfl rfl (by kernel_rfl) (by kernel_rfl) (by kernel_rfl) (fun _ _ _ h => h) rfl ?_ hHeld ?_
              rotate_left
              · (intro wq hSq; have g1 := (hSq.cell (p := ⟨g, m, none⟩) hgl7).trans y1; have g2 := (hSq.cell (p := ⟨Y, m * 2 + 1, none⟩) hYl).trans y2; go_simp <;> first | with_reducible rfl | rfl)
              simp only [Act.put, List.setIfInBounds_toArray, List.set_cons_zero, List.set_cons_succ]
              refine take_on (i := 4) (v := ?_) rfl rfl (by kernel_rfl) (by kernel_rfl) (by kernel_rfl) (fun _ _ _ h => h) rfl ?_ hHeld ?_
              rotate_left
              · (intro wq hSq; have g1 := (hSq.cell (p := ⟨g, m, none⟩) hgl7).trans y1; have g2 := (hSq.cell (p := ⟨Y, m * 2 + 1, none⟩) hYl).trans y2; go_simp <;> first | with_reducible rfl | rfl)
              simp only [Act.put, List.setIfInBounds_toArray, List.set_cons_zero, List.set_cons_succ]
              refine take_on (i := 5) (v := ?_) rfl rfl (by kernel_rfl) (by kernel_rfl) (by kernel_rfl) (fun _ _ _ h => h) rfl ?_ hHeld ?_
              rotate_left
              · (intro wq hSq; have g1 := (hSq.cell (p := ⟨g, m, none⟩) hgl7).trans y1; have g2 := (hSq.cell (p := ⟨Y, m * 2 + 1, none⟩) hYl).trans y2; go_simp <;> first | with_reducible rfl | rfl)
              simp only [Act.put, List.setIfInBounds_toArray, List.set_cons_zero, List.set_cons_succ]
              refine take_on (i := 6) (v := ?_) rfl rfl (by kernel_rfl) (by kernel_rfl) (by kernel_rfl) (fun _ _ _ h => h) rfl ?_ hHeld ?_
              rotate_left
              · (intro wq hSq; have g1 := (hSq.cell (p := ⟨g, m, none⟩) hgl7).trans y1; have g2 := (hSq.cell (p := ⟨Y, m * 2 + 1, none⟩) hYl).trans y2; go_simp <;> first | with_reducible rfl | rfl)
              simp only [Act.put, List.setIfInBounds_toArray, List.set_cons_zero, List.set_cons_succ]
              refine take_on (i := 7) (v := ?_) rfl rfl (by kernel_rfl) (by kernel_rfl) (by kernel_rfl) (fun _ _ _ h => h) rfl ?_ hHeld ?_
              rotate_left
              · (intro wq hSq; have g1 := (hSq.cell (p := ⟨g, m, none⟩) hgl7).trans y1; have g2 := (hSq.cell (p := ⟨Y, m * 2 + 1, none⟩) hYl).trans y2; go_simp <;> first | with_reducible rfl | rfl)
              simp only [Act.put, List.setIfInBounds_toArray, List.set_cons_zero, List.set_cons_succ]
              refine take_on (i := 8) (v := ?_) rfl rfl (by kernel_rfl) (by kernel_rfl) (by kernel_rfl) (fun _ _ _ h => h) rfl ?_ hHeld ?_
              rotate_left
              · (intro wq hSq; have g1 := (hSq.cell (p := ⟨g, m, none⟩) hgl7).trans y1; have g2 := (hSq.cell (p := ⟨Y, m * 2 + 1, none⟩) hYl).trans y2; go_simp <;> first | with_reducible rfl | rfl)
              simp only [Act.put, List.setIfInBounds_toArray, List.set_cons_zero, List.set_cons_succ]
              refine take_on (i := 9) (v := ?_) rfl rfl (by kernel_rfl) (by kernel_rfl) (by kernel_rfl) (fun _ _ _ h => h) rfl ?_ hHeld ?_
              rotate_left
              · (intro wq hSq; have g1 := (hSq.cell (p := ⟨g, m, none⟩) hgl7).trans y1; have g2 := (hSq.cell (p := ⟨Y, m * 2 + 1, none⟩) hYl).trans y2; go_simp <;> first | with_reducible rfl | rfl)
              simp only [Act.put, List.setIfInBounds_toArray, List.set_cons_zero, List.set_cons_succ]
              refine take_on (i := 10) (v := ?_) rfl rfl (by kernel_rfl) (by kernel_rfl) (by kernel_rfl) (fun _ _ _ h => h) rfl ?_ hHeld ?_
              rotate_left
              · (intro wq hSq; have g1 := (hSq.cell (p := ⟨g, m, none⟩) hgl7).trans y1; have g2 := (hSq.cell (p := ⟨Y, m * 2 + 1, none⟩) hYl).trans y2; go_simp <;> first | with_reducible rfl | rfl)
              simp only [Act.put, List.setIfInBounds_toArray, List.set_cons_zero, List.set_cons_succ]
              refine take_on (i := 11) (v := ?_) rfl rfl (by kernel_rfl) (by kernel_rfl) (by kernel_rfl) (fun _ _ _ h => h) rfl ?_ hHeld ?_
              rotate_left
              · (intro wq hSq; have g1 := (hSq.cell (p := ⟨g, m, none⟩) hgl7).trans y1; have g2 := (hSq.cell (p := ⟨Y, m * 2 + 1, none⟩) hYl).trans y2; go_simp <;> first | with_reducible rfl | rfl)
              simp only [Act.put, List.setIfInBounds_toArray, List.set_cons_zero, List.set_cons_succ]
              refine take_on (i := 12) (v := ?_) rfl rfl (by kernel_rfl) (by kernel_rfl) (by kernel_rfl) (fun _ _ _ h => h) rfl ?_ hHeld ?_
              rotate_left
              · (intro wq hSq; have g1 := (hSq.cell (p := ⟨g, m, none⟩) hgl7).trans y1; have g2 := (hSq.cell (p := ⟨Y, m * 2 + 1, none⟩) hYl).trans y2; go_simp <;> first | with_reducible rfl | rfl)
              simp only [Act.put, List.setIfInBounds_toArray, List.set_cons_zero, List.set_cons_succ]
              refine take_on (i := 13) (v := ?_) rfl rfl (by kernel_rfl) (by kernel_rfl) (by kernel_rfl) (fun _ _ _ h => h) rfl ?_ hHeld ?_
              rotate_left
              · (intro wq hSq; have g1 := (hSq.cell (p := ⟨g, m, none⟩) hgl7).trans y1; have g2 := (hSq.cell (p := ⟨Y, m * 2 + 1, none⟩) hYl).trans y2; go_simp <;> first | with_reducible rfl | rfl)
              simp only [Act.put, List.setIfInBounds_toArray, List.set_cons_zero, List.set_cons_succ]
              refine take_on (i := 14) (v := ?_) rfl rfl (by kernel_rfl) (by kernel_rfl) (by kernel_rfl) (fun _ _ _ h => h) rfl ?_ hHeld ?_
              rotate_left
              · (intro wq hSq; have g1 := (hSq.cell (p := ⟨g, m, none⟩) hgl7).trans y1; have g2 := (hSq.cell (p := ⟨Y, m * 2 + 1, none⟩) hYl).trans y2; go_simp <;> first | with_reducible rfl | rfl)
              simp only [Act.put, List.setIfInBounds_toArray, List.set_cons_zero, List.set_cons_succ]
              refine take_on (i := 15) (v := ?_) rfl rfl (by kernel_rfl) (by kernel_rfl) (by kernel_rfl) (fun _ _ _ h => h) rfl ?_ hHeld ?_
              rotate_left
              · (intro wq hSq; have g1 := (hSq.cell (p := ⟨g, m, none⟩) hgl7).trans y1; have g2 := (hSq.cell (p := ⟨Y, m * 2 + 1, none⟩) hYl).trans y2; go_simp <;> first | with_reducible rfl | rfl)
              simp only [Act.put, List.setIfInBounds_toArray, List.set_cons_zero, List.set_cons_succ]
              refine take_on (i := 16) (v := ?_) rfl rfl (by kernel_rfl) (by kernel_rfl) (by kernel_rfl) (fun _ _ _ h => h) rfl ?_ hHeld ?_
              rotate_left
              · (intro wq hSq; have g1 := (hSq.cell (p := ⟨g, m, none⟩) hgl7).trans y1; have g2 := (hSq.cell (p := ⟨Y, m * 2 + 1, none⟩) hYl).trans y2; go_simp <;> first | with_reducible rfl | rfl)
              simp only [Act.put, List.setIfInBounds_toArray, List.set_cons_zero, List.set_cons_succ]
              refine take_on (i := 17) (v := ?_) rfl rfl (by kernel_rfl) (by kernel_rfl) (by kernel_rfl) (fun _ _ _ h => h) rfl ?_ hHeld ?_
              rotate_left
              · (intro wq hSq; have g1 := (hSq.cell (p := ⟨g, m, none⟩) hgl7).trans y1; have g2 := (hSq.cell (p := ⟨Y, m * 2 + 1, none⟩) hYl).trans y2; go_simp <;> first | with_reducible rfl | rfl)
              simp only [Act.put, List.setIfInBounds_toArray, List.set_cons_zero, List.set_cons_succ]
              refine take_on (i := 18) (v := ?_) rfl rfl (by kernel_rfl) (by kernel_rfl) (by kernel_rfl) (fun _ _ _ h => h) rfl ?_ hHeld ?_
              rotate_left
              · (intro wq hSq; have g1 := (hSq.cell (p := ⟨g, m, none⟩) hgl7).trans y1; have g2 := (hSq.cell (p := ⟨Y, m * 2 + 1, none⟩) hYl).trans y2; go_simp <;> first | with_reducible rfl | rfl)
              simp only [Act.put, List.setIfInBounds_toArray, List.set_cons_zero, List.set_cons_succ]
              refine take_on (i := 19) (v := ?_) rfl rfl (by kernel_rfl) (by kernel_rfl) (by kernel_rfl) (fun _ _ _ h => h) rfl ?_ hHeld ?_
              rotate_left
              · (intro wq hSq; have g1 := (hSq.cell (p := ⟨g, m, none⟩) hgl7).trans y1; have g2 := (hSq.cell (p := ⟨Y, m * 2 + 1, none⟩) hYl).trans y2; go_simp <;> first | with_reducible rfl | rfl)
              simp only [Act.put, List.setIfInBounds_toArray, List.set_cons_zero, List.set_cons_succ]
              refine take_on (i := 20) (v := ?_) rfl rfl (by kernel_rfl) (by kernel_rfl) (by kernel_rfl) (fun _ _ _ h => h) rfl ?_ hHeld ?_
              rotate_left
              · (intro wq hSq; have g1 := (hSq.cell (p := ⟨g, m, none⟩) hgl7).trans y1; have g2 := (hSq.cell (p := ⟨Y, m * 2 + 1, none⟩) hYl).trans y2; go_simp <;> first | with_reducible rfl | rfl)
              simp only [Act.put, List.setIfInBounds_toArray, List.set_cons_zero, List.set_cons_succ]
              refine take_on (i := 21) (v := ?_) rfl rfl (by kernel_rfl) (by kernel_rfl) (by kernel_rfl) (fun _ _ _ h => h) rfl ?_ hHeld ?_
              rotate_left
              · (intro wq hSq; have g1 := (hSq.cell (p := ⟨g, m, none⟩) hgl7).trans y1; have g2 := (hSq.cell (p := ⟨Y, m * 2 + 1, none⟩) hYl).trans y2; go_simp <;> first | with_reducible rfl | rfl)
              simp only [Act.put, List.setIfInBounds_toArray, List.set_cons_zero, List.set_cons_succ]
              refine take_on (i := 22) (v := ?_) rfl rfl (by kernel_rfl) (by kernel_rfl) (by kernel_rfl) (fun _ _ _ h => h) rfl ?_ hHeld ?_
              rotate_left
              · (intro wq hSq; have g1 := (hSq.cell (p := ⟨g, m, none⟩) hgl7).trans y1; have g2 := (hSq.cell (p := ⟨Y, m * 2 + 1, none⟩) hYl).trans y2; go_simp <;> first | with_reducible rfl | rfl)
              simp only [Act.put, List.setIfInBounds_toArray, List.set_cons_zero, List.set_cons_succ]
              refine take_on (i := 23) (v := ?_) rfl rfl (by kernel_rfl) (by kernel_rfl) (by kernel_rfl) (fun _ _ _ h => h) rfl ?_ hHeld ?_
              rotate_left
              · (intro wq hSq; have g1 := (hSq.cell (p := ⟨g, m, none⟩) hgl7).trans y1; have g2 := (hSq.cell (p := ⟨Y, m * 2 + 1, none⟩) hYl).trans y2; go_simp <;> first | with_reducible rfl | rfl)
              simp only [Act.put, List.setIfInBounds_toArray, List.set_cons_zero, List.set_cons_succ]
              refine take_on (i := 24) (v := ?_) rfl rfl (by kernel_rfl) (by kernel_rfl) (by kernel_rfl) (fun _ _ _ h => h) rfl ?_ hHeld ?_
              rotate_left
              · (intro wq hSq; have g1 := (hSq.cell (p := ⟨g, m, none⟩) hgl7).trans y1; have g2 := (hSq.cell (p := ⟨Y, m * 2 + 1, none⟩) hYl).trans y2; go_simp <;> first | with_reducible rfl | rfl)
              simp only [Act.put, List.setIfInBounds_toArray, List.set_cons_zero, List.set_cons_succ]
              refine take_on (i := 25) (v := ?_) rfl rfl (by kernel_rfl) (by kernel_rfl) (by kernel_rfl) (fun _ _ _ h => h) rfl ?_ hHeld ?_
              rotate_left
              · (intro wq hSq; have g1 := (hSq.cell (p := ⟨g, m, none⟩) hgl7).trans y1; have g2 := (hSq.cell (p := ⟨Y, m * 2 + 1, none⟩) hYl).trans y2; go_simp <;> first | with_reducible rfl | rfl)
              simp only [Act.put, List.setIfInBounds_toArray, List.set_cons_zero, List.set_cons_succ]
              refine take_on (i := 26) (v := ?_) rfl rfl (by kernel_rfl) (by kernel_rfl) (by kernel_rfl) (fun _ _ _ h => h) rfl ?_ hHeld ?_
              rotate_left
              · (intro wq hSq; have g1 := (hSq.cell (p := ⟨g, m, none⟩) hgl7).trans y1; have g2 := (hSq.cell (p := ⟨Y, m * 2 + 1, none⟩) hYl).trans y2; go_simp <;> first | with_reducible rfl | rfl)
              simp only [Act.put, List.setIfInBounds_toArray, List.set_cons_zero, List.set_cons_succ]
              refine take_on (i := 27) (v := ?_) rfl rfl (by kernel_rfl) (by kernel_rfl) (by kernel_rfl) (fun _ _ _ h => h) rfl ?_ hHeld ?_
              rotate_left
              · (intro wq hSq; have g1 := (hSq.cell (p := ⟨g, m, none⟩) hgl7).trans y1; have g2 := (hSq.cell (p := ⟨Y, m * 2 + 1, none⟩) hYl).trans y2; go_simp <;> first | with_reducible rfl | rfl)
              simp only [Act.put, List.setIfInBounds_toArray, List.set_cons_zero, List.set_cons_succ]
              refine take_on (i := 28) (v := ?_) rfl rfl (by kernel_rfl) (by kernel_rfl) (by kernel_rfl) (fun _ _ _ h => h) rfl ?_ hHeld ?_
              rotate_left
              · (intro wq hSq; have g1 := (hSq.cell (p := ⟨g, m, none⟩) hgl7).trans y1; have g2 := (hSq.cell (p := ⟨Y, m * 2 + 1, none⟩) hYl).trans y2; go_simp <;> first | with_reducible rfl | rfl)
              simp only [Act.put, List.setIfInBounds_toArray, List.set_cons_zero, List.set_cons_succ]
              refine take_on (i := 29) (v := ?_) rfl rfl (by kernel_rfl) (by kernel_rfl) (by kernel_rfl) (fun _ _ _ h => h) rfl ?_ hHeld ?_
              rotate_left
              · (intro wq hSq; have g1 := (hSq.cell (p := ⟨g, m, none⟩) hgl7).trans y1; have g2 := (hSq.cell (p := ⟨Y, m * 2 + 1, none⟩) hYl).trans y2; go_simp <;> first | with_reducible rfl | rfl)
              simp only [Act.put, List.setIfInBounds_toArray, List.set_cons_zero, List.set_cons_succ]
              refine take_one (i := 30) rfl (by kernel_rfl) (fun K hK => ?_)
              go_simp
              refine (heq _ hHeld).mono ?_; rintro e y8 ⟨rfl, hb8⟩; have hy8 := hHeld.trans (hb8.mono hHeld.size)
              try go_wp2_with fail
              refine hK.out _ _ ?_ (fun hHeld => ?_)
              · exact hy8
              clear hK K
              try simp only [Act.put, List.setIfInBounds_toArray, List.set_cons_zero, List.set_cons_succ]
              refine take_on (i := 31) (v := ?_) rfl rfl (by kernel_rfl) (by kernel_rfl) (by kernel_rfl) (fun _ _ _ h => h) rfl ?_ hHeld ?_
              rotate_left
              · (intro wq hSq; have g1 := (hSq.cell (p := ⟨g, m, none⟩) hgl7).trans y1; have g2 := (hSq.cell (p := ⟨Y, m * 2 + 1, none⟩) hYl).trans y2; go_simp <;> first | with_reducible rfl | rfl)
              simp only [Act.put, List.setIfInBounds_toArray, List.set_cons_zero, List.set_cons_succ]
              refine take_on (i := 32) (v := ?_) rfl rfl (by kernel_rfl) (by kernel_rfl) (by kernel_rfl) (fun _ _ _ h => h) rfl ?_ hHeld ?_
              rotate_left
              · (intro wq hSq; have g1 := (hSq.cell (p := ⟨g, m, none⟩) hgl7).trans y1; have g2 := (hSq.cell (p := ⟨Y, m * 2 + 1, none⟩) hYl).trans y2; go_simp <;> first | with_reducible rfl | rfl)
              simp only [Act.put, List.setIfInBounds_toArray, List.set_cons_zero, List.set_cons_succ]
              refine wpAnyH_done (by kernel_rfl) ?_ _
              have hfin := hide_it (hQ.out.trans (hHeld.mono hws))
              clear heq hHeld hb8 hy8 y1 y2
              go_wp2_with fail
              go_roundw
              case rel => exact ⟨m + 1, by omega, by go_num, hfin.out⟩
              case measure => simp [intOf]; omega
            · have hfin : Below w.heap.size w wr := by
                have h5 := hbw2.trans (hS7.out.bel.mono hbw2.size)
                exact h5.trans (hQ.out.mono h5.size)
              clear hQ hS7 hSp
              go_wp2_with fail
              go_ret
              exact ⟨rfl, hfin⟩

end Go.Proofs.Ytjmfmbeijbbdoab.diskSafe
