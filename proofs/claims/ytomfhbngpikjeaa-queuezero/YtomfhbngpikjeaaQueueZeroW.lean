/- The walk of the law QueueZero. -/
import Derived.Test.YtomfhbngpikjeaaQuDo6
import Derived.Test.YtomfhbngpikjeaaQuNo
namespace Go.Proofs.Ytomfhbngpikjeaa.queueZero
open Go.RowKit

theorem nxt_none (k : Int) (s : ByteArray) : nxt 0 [] k s = [] := by
  unfold nxt
  split
  · rfl
  · split
    · rfl
    · split <;> rfl
theorem stay {w0 w w5 : World} {b g c : Nat} (h : Pair w0 w b g c 0 (.slice none 0 0) []) (hw : w0.heap.size ≤ w.heap.size) {g' : Nat} (hg : g' = g ∨ g' = b ∨ w.heap.size ≤ g') (hq : QuS w5 b g' 0 []) (ho : Only b g w w5) :
    Pair w0 w5 b g' c 0 (.slice none 0 0) [] ∧ Below w0.heap.size w w5 := by
  have hc := (Array.getElem?_eq_some_iff.1 h.box).1
  refine ⟨⟨⟨hq, OwS.nil _ _, fun j e => by cases e⟩, (ho.block c hc h.cb h.cg).trans h.box, h.cb, ?_, h.bge, ?_, h.cge⟩, ho.below h.bge h.gge hw⟩
  · have := h.cg; have := h.cb; rcases hg with e | e | e <;> omega
  · have := h.gge; have := h.bge; rcases hg with e | e | e <;> omega

set_option maxRecDepth 100000 in
set_option maxHeartbeats 2000000 in
theorem walk (a : Option Addr) (n cap : Nat) (A : Nat → Sp) (w : World) (hcame : CameT w a n A) :
    Calls Try.prog 6 #[.slice a n cap] w fun e w' => e = .returned (.bool true) ∧ Below w.heap.size w w' := by
  have hrow := hcame.row
  have hnl := hcame.size
  clear hcame
  go_enter Try.func6, Try.ntmps6
  go_wp2_with fail
  refine (fixed_any w).mono ?_
  rintro e w1 ⟨rfl, hb1⟩
  have hs1 := hb1.size
  obtain ⟨b, hb⟩ : ∃ b, b = w1.heap.size := ⟨_, rfl⟩
  obtain ⟨W2, hW2⟩ : ∃ W2, W2 = (w1.alloc (.cells #[.int .i64 0, .int .i64 0, .int .i64 0, .slice none 0 0] 50)).alloc (.cells #[.int .i64 0, .slice none 0 0] 24) := ⟨_, rfl⟩
  have hB2 : Below w1.heap.size w1 W2 := by rw [hW2]; exact ((Below.refl _ _).alloc (Nat.le_refl _) _).alloc (by simp) _
  have hq2 : W2.heap[w1.heap.size]? = some (.cells #[.int .i64 0, .int .i64 0, .int .i64 0, .slice none 0 0] 50 (0, 0)) := by
    rw [hW2, Below.heap_alloc _ _ _ (by simp)]; exact heap_alloc_new _ _
  have hc2 : W2.heap[w1.heap.size + 1]? = some (.cells #[.int .i64 0, .slice none 0 0] 24 (0, 0)) := by
    rw [hW2]
    have := heap_alloc_new (w1.alloc (.cells #[.int .i64 0, .int .i64 0, .int .i64 0, .slice none 0 0] 50)) (.cells #[.int .i64 0, .slice none 0 0] 24)
    simpa using this
  have hp2 : Pair w W2 b b (b + 1) 0 (.slice none 0 0) [] := by
    rw [hb]
    exact ⟨⟨⟨0, 0, ⟨_, hq2, .inl ⟨rfl, rfl, rfl, rfl, rfl⟩⟩, Nat.le_refl _, by omega⟩, OwS.nil _ _, fun j e => by cases e⟩, hc2, by omega, by omega, by omega, by omega, by omega⟩
  have hBB : Below w.heap.size w W2 := hb1.trans (hB2.mono hs1)
  have HP2 := hide_it hp2
  have HBB := hide_it hBB
  have HB := hide_it hb
  clear hb1 hB2 hq2 hc2 hp2 hBB hs1 hb
  go_wp2_with fail
  rw [← hW2]
  rw [← HB.out]
  clear hW2 HB
  obtain ⟨c, hc⟩ : ∃ c, c = b + 1 := ⟨_, rfl⟩
  rw [← hc] at HP2 ⊢
  clear hc
  go_loopw [17] (fun i wr => ∃ k : Nat, k ≤ n ∧ i = .int .i64 k ∧ Hid (∃ g, Pair w wr b g c 0 (.slice none 0 0) []) ∧ Hid (Below w.heap.size w wr)) (fun i _ => n - (intOf i).toNat)
  case atStart => exact ⟨0, Nat.zero_le _, rfl, ⟨b, HP2.out⟩, HBB⟩
  case round =>
    obtain ⟨k, hk, rfl, HP, HB⟩ := hrel
    clear HP2 HBB
    obtain ⟨g, hp⟩ := HP.out
    have hbl := HB.out
    have hsz := hbl.size
    clear HP
    by_cases hlt : k < n
    · have hki : (k : Int) < (n : Int) := by omega
      have hw1 : IntKind.i64.wrap ((k : Int) + 1) = (k : Int) + 1 := i64_in (by omega) (by omega)
      obtain ⟨rb, ro, rfl, hrl, r0, r1⟩ := hrow.here hlt
      have s0 := (hbl.cell (p := ⟨rb, ro + k * 2, none⟩) hrl).trans r0
      have s1 := (hbl.cell (p := ⟨rb, ro + k * 2 + 1, none⟩) hrl).trans r1
      obtain ⟨K, hK⟩ : ∃ K, K = (A k).k := ⟨_, rfl⟩
      obtain ⟨S, hS⟩ : ∃ S, S = (A k).s := ⟨_, rfl⟩
      rw [← hK] at s0
      rw [← hS] at s1
      obtain ⟨Wr, hWr⟩ : ∃ Wr, Wr = wr.alloc (.cells #[.int .i64 K, .string S] 38) := ⟨_, rfl⟩
      have hbr : Below wr.heap.size wr Wr := by rw [hWr]; exact (Below.refl _ _).alloc (Nat.le_refl _) _
      have hst : Wr.heap[wr.heap.size]? = some (.cells #[.int .i64 K, .string S] 38 (0, 0)) := by rw [hWr]; exact heap_alloc_new _ _
      have hpr := hp.below hbr
      have hblr : Below w.heap.size w Wr := hbl.trans (hbr.mono hsz)
      have hdo := does_any b g 0 w.heap.size (.slice none 0 0) [] K S Wr hpr.both hblr.size
      rw [nxt_none] at hdo
      obtain ⟨y0, y1, _, _⟩ := hpr.cells
      rw [hWr] at y0 y1
      rw [Int.natCast_zero] at y0 hdo
      have hbs := hp.both.qu.lt
      have HPR := hide_it hpr
      have HBR := hide_it hblr
      have HWr := hide_it hWr
      have HST := hide_it hst
      clear hK hS hrow hp hbr hbl hpr hblr r0 r1 HB hWr hst
      go_wp2_with fail
      rw [← HWr.out]
      refine hdo.mono ?_
      rintro e w5 ⟨v5, g5, rfl, hg5, hb5, ho5⟩
      obtain ⟨a5, c5, hv5, _⟩ := hb5.shape
      rw [List.length_nil] at hv5
      subst hv5
      have hWs : wr.heap.size < Wr.heap.size := (Array.getElem?_eq_some_iff.1 HST.out).1
      obtain ⟨z1, z2⟩ := stay HPR.out HBR.out.size hg5 hb5.qu ho5
      have st5 := (ho5.block wr.heap.size hWs (by omega) (by omega)).trans HST.out
      have hs5 := ho5.size
      obtain ⟨W6, hW6⟩ : ∃ W6, W6 = w5.alloc (.cells #[.int .i64 0, .slice a5 0 c5] 24) := ⟨_, rfl⟩
      have hb6 : Below w5.heap.size w5 W6 := by rw [hW6]; exact (Below.refl _ _).alloc (Nat.le_refl _) _
      have z3 := z1.below hb6
      have z4 : Below w.heap.size w W6 := (HBR.out.trans z2).trans (hb6.mono (HBR.out.trans z2).size)
      have st6 := (hb6.block wr.heap.size (by omega)).trans st5
      have q0 := cell_of_row _ _ 0 _ _ _ st6
      have q1 := cell_of_row _ _ 1 _ _ _ st6
      simp only [List.getElem?_toArray, List.getElem?_cons_zero, List.getElem?_cons_succ] at q0 q1
      obtain ⟨x0, x1, _, _⟩ := z3.cells
      rw [Int.natCast_zero] at x0
      have HZ3 := hide_it z3
      have HZ4 := hide_it z4
      have HW6 := hide_it hW6
      clear hdo hb5 ho5 hg5 z1 z2 z3 z4 st5 st6 y0 y1 s0 s1 hb6
      rw [hW6] at q0 q1 x0 x1
      clear hW6
      by_cases hK0 : K = 0
      · subst hK0
        have hpn := pushS_none S W6
        go_wp2_with fail
        rw [← HW6.out]
        refine hpn.mono ?_
        rintro e w7 ⟨rfl, hq⟩
        have hq2 := hq.symm
        subst hq2
        clear hq hpn
        rw [← HW6.out] at q0 q1 x0 x1
        go_wp2
        go_roundw
        case rel => exact ⟨k + 1, by omega, by go_num, ⟨g5, HZ3.out⟩, HZ4⟩
        case measure => simp [intOf]; omega
      · have hdn := none_any K S W6 hK0
        go_wp2_with fail
        rw [← HW6.out]
        refine hdn.mono ?_
        rintro e w7 ⟨rfl, hb7⟩
        have hz7 := HZ3.out.below hb7
        have hB7 := HZ4.out.trans (hb7.mono HZ4.out.size)
        have HZ7 := hide_it hz7
        have HB7 := hide_it hB7
        clear hdn hb7 hz7 hB7
        go_wp2
        go_roundw
        case rel => exact ⟨k + 1, by omega, by go_num, ⟨g5, HZ7.out.below ((Below.refl _ _).alloc (Nat.le_refl _) _)⟩, HB7.out.alloc HB7.out.size _⟩
        case measure => simp [intOf]; omega
    · go_wp2
      go_ret
      exact ⟨rfl, hbl⟩

end Go.Proofs.Ytomfhbngpikjeaa.queueZero
