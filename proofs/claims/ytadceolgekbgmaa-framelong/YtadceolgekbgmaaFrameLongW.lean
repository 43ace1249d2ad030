/- The law on Make of a long payload, walked. -/
import Derived.Test.YtadceolgekbgmaaFrameMakeW
import Derived.Test.YtadceolgekbgmaaFk1
namespace Go.Proofs.Ytadceolgekbgmaa.frameLong
open Go.RowKit

/-- n bytes, the first k of which count on from f. -/
def cntL (f n k : Nat) : List Nat := (List.range n).map fun j => if j < k then (f + j) % 256 else 0
theorem cntL_len (f n k : Nat) : (cntL f n k).length = n := by simp [cntL]
theorem cntL_at (f n k i : Nat) (hi : i < n) : at0 (cntL f n k) i = if i < k then (f + i) % 256 else 0 := by
  unfold at0 cntL
  rw [List.getD_eq_getElem?_getD, List.getElem?_map, List.getElem?_range hi]; rfl
theorem cntL_all (f n k : Nat) : All8 (cntL f n k) := by
  intro z hz
  obtain ⟨j, _, rfl⟩ := List.mem_map.1 hz
  split <;> omega
theorem cntL_zero (f n : Nat) : cntL f n 0 = List.replicate n 0 := by
  apply List.ext_getElem
  · simp [cntL]
  · intro i h1 h2
    simp [cntL]
theorem at0_set {zs : List Nat} {i : Nat} (hi : i < zs.length) (x k : Nat) : at0 (zs.set i x) k = if k = i then x else at0 zs k := by
  unfold at0
  rw [List.getD_eq_getElem?_getD, List.getD_eq_getElem?_getD, List.getElem?_set]
  by_cases e : i = k
  · subst e; rw [if_pos rfl, if_pos hi, if_pos rfl]; rfl
  · rw [if_neg e, if_neg (fun h => e h.symm)]
theorem cntL_set (f n k : Nat) (hk : k < n) : (cntL f n k).set k ((f + k) % 256) = cntL f n (k + 1) := by
  apply eq_of_at (by simp [cntL_len])
  intro i h1
  have hi : i < n := by rw [List.length_set, cntL_len] at h1; exact h1
  rw [at0_set (by rw [cntL_len]; exact hk), cntL_at _ _ _ _ hi, cntL_at _ _ _ _ hi]
  by_cases e : i = k
  · subst e; rw [if_pos rfl, if_pos (by omega)]
  · rw [if_neg e]
    by_cases h : i < k
    · rw [if_pos h, if_pos (by omega)]
    · rw [if_neg h, if_neg (by omega)]

set_option maxRecDepth 100000 in
set_option maxHeartbeats 2000000 in
theorem walk (s : Int) (hs : -9223372036854775808 ≤ s ∧ s ≤ 9223372036854775807) (f : Nat) (w : World) (_hf : f < 256) :
    Calls Try.prog 4 #[.int .i64 s, .int .u8 (f : Int)] w fun e w' => e = .returned (.bool true) ∧ Below w.heap.size w w' := by
  obtain ⟨hs1, hs2⟩ := hs
  by_cases hout : s < 0 ∨ 65636 < s
  · have hh := head_any w
    rcases hout with h | h
    · go_enter Try.func4, Try.ntmps4
      go_wp2_with (go_at_call 12; refine hh.mono ?_; rintro e w1 ⟨rfl, hb⟩)
      go_ret
      exact ⟨rfl, hb⟩
    · have h' : ¬ s < 0 := by omega
      go_enter Try.func4, Try.ntmps4
      go_wp2_with (go_at_call 12; refine hh.mono ?_; rintro e w1 ⟨rfl, hb⟩)
      go_ret
      exact ⟨rfl, hb⟩
  · obtain ⟨n, rfl⟩ : ∃ n : Nat, s = (n : Int) := ⟨s.toNat, by omega⟩
    have hn : n ≤ 65636 := by omega
    have hn' : ¬ (65636 : Int) < (n : Int) := by omega
    have hmk := mk8_any n (by omega) w
    have hown0 := own_made n (by omega) w
    rw [← cntL_zero f n] at hown0
    have hb0 : Below w.heap.size w (w.alloc (.cells (madeCells #[.int .u8 0] n) 5)) := (Below.refl _ _).alloc (Nat.le_refl _) _
    obtain ⟨g, hg⟩ : ∃ g, g = w.heap.size := ⟨_, rfl⟩
    obtain ⟨W0, hW0⟩ : ∃ W0, W0 = w.alloc (.cells (madeCells #[.int .u8 0] n) 5) := ⟨_, rfl⟩
    rw [← hg, ← hW0] at hmk hown0
    rw [← hW0] at hb0
    have hgw : w.heap.size ≤ g := by omega
    clear hg hW0 hout
    go_enter Try.func4, Try.ntmps4
    go_wp2
    go_loopw [18, 6] (fun i _ wr => ∃ k : Nat, k ≤ n ∧ i = .int .i64 (k : Int) ∧ Hid (OwnB wr g (.slice (some ⟨g, 0, none⟩) n n) (cntL f n k)) ∧ Below w.heap.size w wr) (fun i _ _ => n - (intOf i).toNat)
    case atStart => exact ⟨0, by omega, rfl, hown0, hb0⟩
    case round =>
      obtain ⟨k, hk, rfl, hown, hbl⟩ := hrel
      clear hown0 hb0 hmk
      by_cases hlt : k < n
      · have hki : (k : Int) < (n : Int) := by omega
        obtain ⟨g', cur, e', hnn, _, hh, hc⟩ := hown.out.at (by rw [cntL_len]; omega)
        cases e'
        clear hnn
        have hcell : wr.cell? ⟨g, k, none⟩ = some (.int .u8 ((at0 (cntL f n k) k : Nat) : Int)) := by
          rw [cell_of_row _ _ _ _ _ _ hh]; exact hc k (by rw [cntL_len]; exact hlt)
        have hfz := frozen_of_row wr g k _ _ hh
        have hset := hown.out.set (i := k) (by rw [cntL_len]; exact hlt) ((f + k) % 256)
        rw [cntL_set f n k hlt] at hset
        have hb2 : Below w.heap.size w (wr.setCell ⟨g, k, none⟩ (.int .u8 (((f + k) % 256 : Nat) : Int))) := hbl.setCell hgw _
        have hw1 : IntKind.u8.wrap (k : Int) = ((k % 256 : Nat) : Int) := wrap_byte k
        have hw2 : IntKind.u8.wrap ((f : Int) + ((k % 256 : Nat) : Int)) = (((f + k) % 256 : Nat) : Int) := by
          rw [← Int.natCast_add, wrap_byte]; omega
        generalize at0 (cntL f n k) k = y at *
        generalize hX : (f + k) % 256 = X at *
        generalize hZ : k % 256 = Z at *
        have HS := hide_it hset
        have HB := hide_it hb2
        clear hh hc hown hbl hset hb2 hX hZ
        go_wp2
        go_roundw
        case rel => exact ⟨k + 1, by omega, by go_num, HS.out, HB.out⟩
        case measure => simp [intOf]; omega
      · have hkn : k = n := by omega
        subst hkn
        obtain ⟨a1, c1, e1, hr1, _, _, hn1⟩ := hown.out.row
        rw [cntL_len] at e1
        cases e1
        have hz := hbl.size
        have hany := frameMake.any (some ⟨g, 0, none⟩) k (cntL f k k) wr hr1 (cntL_all _ _ _) (by rw [cntL_len]; omega) (by simp)
        rw [cntL_len] at hany
        clear hown hr1 hn1
        go_wp2_with (go_at_call 3; refine hany.mono ?_; rintro e w1 ⟨rfl, hb⟩)
        go_ret
        exact ⟨rfl, hbl.trans (hb.mono hz)⟩
end Go.Proofs.Ytadceolgekbgmaa.frameLong
