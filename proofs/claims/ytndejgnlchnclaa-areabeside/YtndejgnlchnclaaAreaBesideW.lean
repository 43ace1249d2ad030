/- The law on two scripts by two pairs in turns, walked. -/
import Derived.Test.YtndejgnlchnclaaSt8
namespace Go.Proofs.Ytndejgnlchnclaa.areaBeside
open Go.RowKit

set_option maxRecDepth 100000 in
set_option maxHeartbeats 6400000 in
theorem walk (a : Option Addr) (n c : Nat) (A : Nat → Stp) (a' : Option Addr) (n' c' : Nat) (A' : Nat → Stp) (w : World) (hs : CameStp w a n A) (hs' : CameStp w a' n' A') :
    Calls Try.prog 5 #[.slice a n c, .slice a' n' c'] w fun e w' => e = .returned (.bool true) ∧ Below w.heap.size w w' := by
  have hn := hs.size
  have hn' := hs'.size
  obtain ⟨W0, hW0⟩ : ∃ W0, W0 = w.alloc (.cells #[.slice a n c, .slice a' n' c'] 23) := ⟨_, rfl⟩
  have hb0 : Below w.heap.size w W0 := by rw [hW0]; exact (Below.refl _ _).alloc (Nat.le_refl _) _
  have hq0 : W0.heap[w.heap.size]? = some (.cells #[.slice a n c, .slice a' n' c'] 23 (0, 0)) := by rw [hW0]; exact heap_alloc_new w _
  have hva := vast_any w.heap.size 2 2 (fun i => if i = 0 then ⟨a, n, c, A⟩ else ⟨a', n', c', A'⟩) W0 (by omega) (Array.getElem?_eq_some_iff.1 hq0).1 (fun i hi => by
    have : i = 0 ∨ i = 1 := by omega
    rcases this with rfl | rfl
    · exact cell_of_row _ _ _ _ _ _ hq0
    · exact cell_of_row _ _ _ _ _ _ hq0) (fun i hi => by
    by_cases h0 : i = 0
    · simp only [h0, if_true]; exact hs.below hb0
    · simp only [h0, if_false]; exact hs'.below hb0)
  have httl : ttl (fun i => if i = 0 then ⟨a, n, c, A⟩ else ⟨a', n', c', A'⟩) 2 = tot A n + tot A' n' := by simp [ttl]
  rw [httl] at hva
  go_enter Try.func5, Try.ntmps5
  go_wp2_with fail
  rw [← hW0]
  clear hW0 hq0 httl
  refine hva.mono ?_
  rintro e w1 ⟨⟨b, rfl, hT⟩, hb1⟩
  have hbw := hb0.trans (hb1.mono hb0.size)
  clear hva
  cases b with
  | true =>
    clear hT hs hs'
    go_wp2_with fail
    go_ret
    exact ⟨rfl, hbw⟩
  | false =>
    replace hT := hide_it (hT rfl)
    go_wp2_with fail
    refine (new_any w1).mono ?_
    rintro e w2 ⟨rfl, hq⟩
    have h2 := Two.new w w1 hbw
    have hs2 : w2.heap.size = w1.heap.size + 1 := by rw [hq]; simp
    rw [← show w2 = w1.alloc objA from hq] at h2
    rw [show w1.heap.size + 3 = w1.heap.size + 1 + 1 + 1 by omega, show w1.heap.size + 2 = w1.heap.size + 1 + 1 by omega] at h2
    clear hq
    go_wp2_with fail
    refine (new_any _).mono ?_
    rintro e w3 ⟨rfl, hq⟩
    subst hq
    obtain ⟨W3, hW3⟩ : ∃ W3, W3 = (((w2.alloc (objP w1.heap.size)).alloc objA).alloc (objP (w1.heap.size + 1 + 1))) := ⟨_, rfl⟩
    rw [← hW3] at h2
    have haw := awake_any W3
    go_wp2_with fail
    rw [← show W3 = _ from hW3]
    clear hW3 hs2
    obtain ⟨pp1, hp1⟩ : ∃ p, p = w1.heap.size + 1 := ⟨_, rfl⟩
    obtain ⟨pp2, hp2⟩ : ∃ p, p = w1.heap.size + 1 + 1 + 1 := ⟨_, rfl⟩
    rw [← hp2, ← hp1] at h2
    rw [← hp2, ← hp1]
    clear hp1 hp2 hb1 hbw
    refine haw.mono ?_
    rintro e w4 ⟨rfl, hb4⟩
    have h4 := hide_it (h2.below hb4)
    clear haw h2 hb4
    go_wp2_with fail
    go_loopw [7] (fun i wr => ∃ m : Nat, (m ≤ n ∨ m ≤ n') ∧ i = .int .i64 (m : Int) ∧ Hid (Two w pp1 pp2 (runA A (min m n)) (runA A' (min m n')) wr)) (fun i _ => max n n' - (intOf i).toNat)
    case atStart => exact ⟨0, by omega, rfl, h4⟩
    case round =>
      obtain ⟨m, hm, rfl, h5⟩ := hrel
      clear h4
      have hml : m ≤ 2932031007317 := by omega
      by_cases hlt : m < n
      · have hmi : (m : Int) < (n : Int) := by omega
        obtain ⟨bk, o, rfl, hbb, d1, d2, d3, d4⟩ := hs.row.here hlt
        have hok := hs.each m hlt
        have hI := runA_inv A m
        have hTm : tot A m + (1 + (A m).d.p.length) ≤ 1073741824 := Nat.le_trans (tot_mono A (show m + 1 ≤ n from hlt)) (by have := hT.out; omega)
        have hbw := h5.out.bel
        have c1 := (hbw.cell (p := ⟨bk, o + m * 4, none⟩) hbb).trans d1
        have c2 := (hbw.cell (p := ⟨bk, o + m * 4 + 1, none⟩) hbb).trans d2
        have c3 := (hbw.cell (p := ⟨bk, o + m * 4 + 2, none⟩) hbb).trans d3
        have c4 := (hbw.cell (p := ⟨bk, o + m * 4 + 3, none⟩) hbb).trans d4
        have hmin : min m n = m := by omega
        have h5' := h5.out
        rw [hmin] at h5'
        have hst := h5'.step (A m) hok hI hTm
        have hrn : Hid (runA A (min (m + 1) n) = nxt (A m) (runA A m)) := by unfold Hid; rw [show min (m + 1) n = m + 1 by omega]; rfl
        clear hs d1 d2 d3 d4 h5' hmin
        go_wp2_with fail
        refine hst.mono ?_
        rintro e w5 ⟨rfl, h6⟩
        clear hst c1 c2 c3 c4
        by_cases hlt' : m < n'
        · have hmi' : (m : Int) < (n' : Int) := by omega
          obtain ⟨bk', o', rfl, hbb', d1, d2, d3, d4⟩ := hs'.row.here hlt'
          have hok' := hs'.each m hlt'
          have hI' := runA_inv A' m
          have hTm' : tot A' m + (1 + (A' m).d.p.length) ≤ 1073741824 := Nat.le_trans (tot_mono A' (show m + 1 ≤ n' from hlt')) (by have := hT.out; omega)
          have hbw' := h6.bel
          have c1 := (hbw'.cell (p := ⟨bk', o' + m * 4, none⟩) hbb').trans d1
          have c2 := (hbw'.cell (p := ⟨bk', o' + m * 4 + 1, none⟩) hbb').trans d2
          have c3 := (hbw'.cell (p := ⟨bk', o' + m * 4 + 2, none⟩) hbb').trans d3
          have c4 := (hbw'.cell (p := ⟨bk', o' + m * 4 + 3, none⟩) hbb').trans d4
          have hmin' : min m n' = m := by omega
          rw [hmin'] at h6
          have hst2 := h6.swap.step (A' m) hok' hI' hTm'
          have hrn' : Hid (runA A' (min (m + 1) n') = nxt (A' m) (runA A' m)) := by unfold Hid; rw [show min (m + 1) n' = m + 1 by omega]; rfl
          clear hs' d1 d2 d3 d4 hmin'
          go_wp2_with fail
          refine hst2.mono ?_
          rintro e w6 ⟨rfl, h7⟩
          have h8 := hide_it h7.swap
          clear hst2 h7 h6 h5 c1 c2 c3 c4
          go_wp2_with fail
          go_roundw
          case rel => exact ⟨m + 1, by omega, by go_num, by rw [hrn.out, hrn'.out]; exact h8⟩
          case measure => simp [intOf]; omega
        · have hrn' : Hid (runA A' (min (m + 1) n') = runA A' (min m n')) := by unfold Hid; rw [show min (m + 1) n' = min m n' by omega]
          have h8 := hide_it h6
          clear h6 h5 hs'
          go_wp2_with fail
          go_roundw
          case rel => exact ⟨m + 1, by omega, by go_num, by rw [hrn.out, hrn'.out]; exact h8⟩
          case measure => simp [intOf]; omega
      · by_cases hlt' : m < n'
        · have hmi' : (m : Int) < (n' : Int) := by omega
          obtain ⟨bk', o', rfl, hbb', d1, d2, d3, d4⟩ := hs'.row.here hlt'
          have hok' := hs'.each m hlt'
          have hI' := runA_inv A' m
          have hTm' : tot A' m + (1 + (A' m).d.p.length) ≤ 1073741824 := Nat.le_trans (tot_mono A' (show m + 1 ≤ n' from hlt')) (by have := hT.out; omega)
          have hbw' := h5.out.bel
          have c1 := (hbw'.cell (p := ⟨bk', o' + m * 4, none⟩) hbb').trans d1
          have c2 := (hbw'.cell (p := ⟨bk', o' + m * 4 + 1, none⟩) hbb').trans d2
          have c3 := (hbw'.cell (p := ⟨bk', o' + m * 4 + 2, none⟩) hbb').trans d3
          have c4 := (hbw'.cell (p := ⟨bk', o' + m * 4 + 3, none⟩) hbb').trans d4
          have hmin' : min m n' = m := by omega
          have h5' := h5.out
          rw [hmin'] at h5'
          have hst2 := h5'.swap.step (A' m) hok' hI' hTm'
          have hrn' : Hid (runA A' (min (m + 1) n') = nxt (A' m) (runA A' m)) := by unfold Hid; rw [show min (m + 1) n' = m + 1 by omega]; rfl
          have hrn : Hid (runA A (min (m + 1) n) = runA A (min m n)) := by unfold Hid; rw [show min (m + 1) n = min m n by omega]
          clear hs' hs d1 d2 d3 d4 hmin' h5'
          go_wp2_with fail
          refine hst2.mono ?_
          rintro e w6 ⟨rfl, h7⟩
          have h8 := hide_it h7.swap
          clear hst2 h7 h5 c1 c2 c3 c4
          go_wp2_with fail
          go_roundw
          case rel => exact ⟨m + 1, by omega, by go_num, by rw [hrn.out, hrn'.out]; exact h8⟩
          case measure => simp [intOf]; omega
        · have hl1 := h5.out.last
          clear hs hs'
          go_wp2_with fail
          refine hl1.mono ?_
          rintro e w5 ⟨rfl, hb5⟩
          have hl2 := (h5.out.below hb5).swap.last
          clear hl1
          go_wp2_with fail
          refine hl2.mono ?_
          rintro e w6 ⟨rfl, hb6⟩
          have hfin := ((h5.out.below hb5).below hb6).bel
          clear hl2
          go_wp2_with fail
          go_ret
          exact ⟨rfl, hfin⟩
end Go.Proofs.Ytndejgnlchnclaa.areaBeside
