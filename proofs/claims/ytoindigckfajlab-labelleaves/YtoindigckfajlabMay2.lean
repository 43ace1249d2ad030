/- What May of the document answers. -/
import Derived.Test.YtoindigckfajlabMay1
namespace Go.Proofs.Ytoindigckfajlab
open Go.RowKit

set_option maxRecDepth 100000 in
set_option maxHeartbeats 1000000 in
theorem rmay_any (a b c : Option Addr) (ca cb cc n k : Nat) (zs : List Nat) (A : Nat → Nat → Int) (S : Nat → Int) (w : World) (hr : Row w a zs) (h64 : All64 zs) (hl : zs.length ≤ maxLen) (hA : RowA w b n A) (hS : RowZ w c k S) :
    Calls Try.prog 19 #[.agg #[.slice a zs.length ca, .slice b n cb, .slice c k cc]] w fun e w' => (∃ v : Bool, e = .returned (.bool v) ∧ (v = true ↔ MayP zs n A k S)) ∧ Below w.heap.size w w' := by
  have hb0 : Below w.heap.size w (w.alloc (.cells #[.slice a zs.length ca, .slice b n cb, .slice c k cc] 47)) := (Below.refl _ _).alloc (Nat.le_refl _) _
  have hck := rcheck_any a ca zs (w.alloc (.cells #[.slice a zs.length ca, .slice b n cb, .slice c k cc] 47)) (hr.below hb0) h64 hl
  have hf0 : (w.alloc (.cells #[.slice a zs.length ca, .slice b n cb, .slice c k cc] 47)).cell? ⟨w.heap.size, 0, none⟩ = some (.slice a zs.length ca) := by rw [cell_of_row _ _ _ _ _ _ (heap_alloc_new w _)]; rfl
  have hf1 : (w.alloc (.cells #[.slice a zs.length ca, .slice b n cb, .slice c k cc] 47)).cell? ⟨w.heap.size, 1, none⟩ = some (.slice b n cb) := by rw [cell_of_row _ _ _ _ _ _ (heap_alloc_new w _)]; rfl
  have hf2 : (w.alloc (.cells #[.slice a zs.length ca, .slice b n cb, .slice c k cc] 47)).cell? ⟨w.heap.size, 2, none⟩ = some (.slice c k cc) := by rw [cell_of_row _ _ _ _ _ _ (heap_alloc_new w _)]; rfl
  have hsz0 : (w.alloc (.cells #[.slice a zs.length ca, .slice b n cb, .slice c k cc] 47)).heap.size = w.heap.size + 1 := by simp
  go_enter Try.func19, Try.ntmps19
  go_wp2_with fail
  generalize w.alloc (.cells #[.slice a zs.length ca, .slice b n cb, .slice c k cc] 47) = w0 at *
  refine hck.mono ?_
  rintro e w1 ⟨rfl, hb1⟩
  have hg0 : w1.cell? ⟨w.heap.size, 0, none⟩ = some (.slice a zs.length ca) := by rw [hb1.cell (p := ⟨w.heap.size, 0, none⟩) (by rw [hsz0]; simp)]; exact hf0
  have hg1 : w1.cell? ⟨w.heap.size, 1, none⟩ = some (.slice b n cb) := by rw [hb1.cell (p := ⟨w.heap.size, 1, none⟩) (by rw [hsz0]; simp)]; exact hf1
  have hg2 : w1.cell? ⟨w.heap.size, 2, none⟩ = some (.slice c k cc) := by rw [hb1.cell (p := ⟨w.heap.size, 2, none⟩) (by rw [hsz0]; simp)]; exact hf2
  have hb2 := hb0.trans (hb1.mono hb0.size)
  have hs1 : w.heap.size < w1.heap.size := by have := hb1.size; omega
  clear hf0 hf1 hf2 hck hb0 hb1 hr
  by_cases hc0 : checkOf zs = 0
  · have HC : Hid (checkOf zs = 0) := hc0
    have hd0 : (((checkOf zs : Nat) : Int) != 0) = false := by rw [hc0]; rfl
    clear hc0
    generalize ((checkOf zs : Nat) : Int) = q at *
    by_cases hnn : n = zs.length
    · subst hnn
      by_cases hkk : k ≤ 32
      · have hd1 : ((zs.length : Int) != (zs.length : Int)) = false := by simp
        unfold maxLen at hl
        have hn63 : (zs.length : Int) ≤ 9223372036854775807 := by omega
        go_wp2
        go_loopw [3] (fun i wr => ∃ j : Nat, j ≤ zs.length ∧ i = .int .i64 j ∧ Hid (accTo A j) ∧ Below w1.heap.size w1 wr) (fun i _ => zs.length - (intOf i).toNat)
        case atStart => exact ⟨0, by omega, rfl, fun i hi => by omega, Below.refl _ _⟩
        case round =>
          obtain ⟨j, hj, rfl, hto, hbl⟩ := hrel
          have hq1 := hbl.cell (p := ⟨w.heap.size, 1, none⟩) hs1
          rw [hg1] at hq1
          by_cases hlt : j < zs.length
          · obtain ⟨b1, o1, rfl, _, hc1⟩ := ((hA.below hb2).below hbl).here hlt
            have e0 : wr.cell? ⟨b1, o1 + j * 5, none⟩ = some (.int .i64 (A j 0)) := hc1 j hlt 0 (by omega)
            have e1 := hc1 j hlt 1 (by omega)
            have e2 := hc1 j hlt 2 (by omega)
            have e3 := hc1 j hlt 3 (by omega)
            have e4 := hc1 j hlt 4 (by omega)
            clear hc1
            have hb3 : Below w1.heap.size w1 (wr.alloc (.cells #[.int .i64 (A j 0), .int .i64 (A j 1), .int .i64 (A j 2), .int .i64 (A j 3), .int .i64 (A j 4)] 78)) := hbl.alloc hbl.size _
            cases hy0 : win (A j 0) 1048576
            · go_wp2_with (go_at_call 42; refine (rwithin_is (by assumption)).mono ?_; rintro e w' ⟨rfl, rfl⟩)
              go_ret
              exact ⟨⟨false, rfl, not_may fun h => by have h8 := h.acc j hlt; unfold accOk at h8; simp [hy0] at h8⟩, hb2.trans (hb3.mono hb2.size)⟩
            · cases hy1 : win (A j 1) 32
              · go_wp2_with (go_at_call 42; refine (rwithin_is (by assumption)).mono ?_; rintro e w' ⟨rfl, rfl⟩)
                go_ret
                exact ⟨⟨false, rfl, not_may fun h => by have h8 := h.acc j hlt; unfold accOk at h8; simp [hy1] at h8⟩, hb2.trans (hb3.mono hb2.size)⟩
              · cases hy2 : win (A j 2) 64
                · go_wp2_with (go_at_call 42; refine (rwithin_is (by assumption)).mono ?_; rintro e w' ⟨rfl, rfl⟩)
                  go_ret
                  exact ⟨⟨false, rfl, not_may fun h => by have h8 := h.acc j hlt; unfold accOk at h8; simp [hy2] at h8⟩, hb2.trans (hb3.mono hb2.size)⟩
                · cases hy3 : win (A j 3) 1048576
                  · go_wp2_with (go_at_call 42; refine (rwithin_is (by assumption)).mono ?_; rintro e w' ⟨rfl, rfl⟩)
                    go_ret
                    exact ⟨⟨false, rfl, not_may fun h => by have h8 := h.acc j hlt; unfold accOk at h8; simp [hy3] at h8⟩, hb2.trans (hb3.mono hb2.size)⟩
                  · cases hy4 : win (A j 4) 4611686018427387904
                    · go_wp2_with (go_at_call 42; refine (rwithin_is (by assumption)).mono ?_; rintro e w' ⟨rfl, rfl⟩)
                      go_ret
                      exact ⟨⟨false, rfl, not_may fun h => by have h8 := h.acc j hlt; unfold accOk at h8; simp [hy4] at h8⟩, hb2.trans (hb3.mono hb2.size)⟩
                    · have hv : accOk (A j) = true := by unfold accOk; rw [hy0, hy1, hy2, hy3, hy4]; rfl
                      go_wp2_with (go_at_call 42; refine (rwithin_is (by assumption)).mono ?_; rintro e w' ⟨rfl, rfl⟩)
                      go_roundw
                      case rel =>
                        refine ⟨j + 1, by omega, by go_num, fun i hi => ?_, hb3⟩
                        by_cases e : i = j
                        · subst e; exact hv
                        · exact hto i (by omega)
                      case measure => simp [intOf]; omega
          · have hjn : j = zs.length := by omega
            have HTO : Hid (accTo A zs.length) := hjn ▸ hto
            clear hto
            have hh0 : wr.cell? ⟨w.heap.size, 0, none⟩ = some (.slice a zs.length ca) := by rw [hbl.cell (p := ⟨w.heap.size, 0, none⟩) hs1]; exact hg0
            have hh2 : wr.cell? ⟨w.heap.size, 2, none⟩ = some (.slice c k cc) := by rw [hbl.cell (p := ⟨w.heap.size, 2, none⟩) hs1]; exact hg2
            have hb3 := hb2.trans (hbl.mono hb2.size)
            have hs2 : w.heap.size < wr.heap.size := by have := hbl.size; omega
            clear hg0 hg1 hg2 hjn
            have hk63 : (k : Int) ≤ 32 := by omega
            have HR : Hid (RowZ wr c k S) := hS.below hb3
            clear hA hS hb2 hbl
            go_wp2
            go_loopw [5] (fun i wr2 => ∃ j : Nat, j ≤ k ∧ i = .int .i64 j ∧ Hid (sesTo S ((zs.length : Int) - 1) j) ∧ Below wr.heap.size wr wr2) (fun i _ => k - (intOf i).toNat)
            case atStart => exact ⟨0, by omega, rfl, fun i hi => by omega, Below.refl _ _⟩
            case round =>
              obtain ⟨j, hj, rfl, hto, hbl⟩ := hrel
              have hq0 := hbl.cell (p := ⟨w.heap.size, 0, none⟩) hs2
              rw [hh0] at hq0
              have hq2 := hbl.cell (p := ⟨w.heap.size, 2, none⟩) hs2
              rw [hh2] at hq2
              by_cases hlt : j < k
              · obtain ⟨b1, o1, rfl, _, hc1⟩ := (HR.out.below hbl).here hlt
                have e0 := hc1 j hlt
                clear hc1
                have hi1 : (j : Int) < (k : Int) := by omega
                cases hv : win (S j) ((zs.length : Int) - 1)
                · go_wp2
                  go_quiet ((go_at_call 42; exact Calls.quiet_of_same (rwithin_is (by assumption))))
                  go_wp2
                  go_ret
                  exact ⟨⟨false, rfl, not_may fun h => by have := h.ses j hlt; rw [hv] at this; cases this⟩, hb3.trans ((below_drewN hbl _).mono hb3.size)⟩
                · go_wp2
                  go_quiet ((go_at_call 42; exact Calls.quiet_of_same (rwithin_is (by assumption))))
                  go_wp2
                  go_roundw
                  case rel =>
                    refine ⟨j + 1, by omega, by go_num, fun i hi => ?_, below_drewN hbl _⟩
                    by_cases e : i = j
                    · subst e; exact hv
                    · exact hto i (by omega)
                  case measure => simp [intOf]; omega
              · have hjk : j = k := by omega
                subst hjk
                go_wp2
                go_ret
                exact ⟨⟨true, rfl, yes_may ⟨HC.out, rfl, hkk, HTO.out, hto⟩⟩, hb3.trans (hbl.mono hb3.size)⟩
      · have hd1 : ((zs.length : Int) != (zs.length : Int)) = false := by simp
        go_wp2
        go_ret
        exact ⟨⟨false, rfl, not_may fun h => hkk h.few⟩, hb2⟩
    · have hd1 : ((n : Int) != (zs.length : Int)) = true := by simp; omega
      go_wp2
      go_ret
      exact ⟨⟨false, rfl, not_may fun h => hnn h.cnt⟩, hb2⟩
  · have hd0 : (((checkOf zs : Nat) : Int) != 0) = true := by simp; omega
    generalize ((checkOf zs : Nat) : Int) = q at *
    go_wp2
    go_ret
    exact ⟨⟨false, rfl, not_may fun h => hc0 h.chk⟩, hb2⟩

end Go.Proofs.Ytoindigckfajlab
