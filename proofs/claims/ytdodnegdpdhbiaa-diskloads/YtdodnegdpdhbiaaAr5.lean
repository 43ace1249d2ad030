/- The program's area, walked: Crash, Image, Load. -/
import Derived.Test.YtdodnegdpdhbiaaAr4
namespace Go.Proofs.Ytdodnegdpdhbiaa
open Go.RowKit

theorem OwB.set {w : World} {base g o2 cap : Nat} {zs : List Nat} (h : OwB w base (.slice (some ⟨g, o2, none⟩) zs.length cap) zs) {i : Nat} (hi : i < zs.length) (x : Nat) : OwB (w.setCell ⟨g, o2 + i, none⟩ (.int .u8 (x : Int))) base (.slice (some ⟨g, o2, none⟩) zs.length cap) (zs.set i x) := by
  have h2 := OwnS.set h i (by simpa using hi) (.int .u8 (x : Int))
  unfold OwB
  rw [List.length_set, List.map_set]
  exact h2

/-- .. ahead of a write to one of its bytes. -/
theorem Moved.poke {w w1 : World} {p o : Nat} {v : Value} {B : Nat} {bs : List Nat} {k g o2 cap : Nat} (hm : Moved w p o v B bs k w1) (h1 : Ar w1 p o (.slice (some ⟨g, o2, none⟩) bs.length cap) B bs k) (hn : v.ownBlock = some g ∨ w.heap.size ≤ g) {i : Nat} (hi : i < bs.length) (x : Nat) (hx : x < 256) :
    Moved w p o v B (bs.set i x) k (w1.setCell ⟨g, o2 + i, none⟩ (.int .u8 (x : Int))) := by
  have hne : p ≠ g := fun e => h1.far (by rw [e]; rfl)
  have hb : (w1.setCell ⟨g, o2 + i, none⟩ (.int .u8 (x : Int))).heap[p]? = w1.heap[p]? := Below.heap_setCell _ _ _ _ hne
  obtain ⟨C, t, hC, q⟩ := h1.blk
  refine ⟨⟨.slice (some ⟨g, o2, none⟩) bs.length cap, ⟨⟨C, t, hb.trans hC, q⟩, OwB.set h1.own hi x, h1.far, ?_, by rw [List.length_set]; exact h1.len, by rw [List.length_set]; exact h1.room⟩, ?_⟩, hm.chg.setCell _ _ ?_, hm.rest.trans (Rest.of_block hb)⟩
  · intro z hz
    rcases List.mem_or_eq_of_mem_set hz with h | h
    · exact h1.all z h
    · omega
  · rcases hn with h | h
    · exact .inl (by rw [h]; rfl)
    · exact .inr fun j hj => by cases hj; exact h
  · intro hlt
    rcases hn with h | h
    · exact .inr h
    · exact absurd hlt (by show ¬ g < w.heap.size; omega)

/-- The bytes, the last one torn. -/
def tear (l : List Nat) (t : Nat) : List Nat := l.set (l.length - 1) (at0 l (l.length - 1) ^^^ t)
/-- What a loss of power leaves of bytes, k of which are safe, where c more are kept. -/
def crashB (bs : List Nat) (k c t : Nat) : List Nat := if 0 < c then tear (bs.take (k + c)) t else bs.take (k + c)
theorem crashB_len (bs : List Nat) (k c t : Nat) (h : k + c ≤ bs.length) : (crashB bs k c t).length = k + c := by
  unfold crashB tear
  split <;> simp <;> omega

set_option maxRecDepth 100000 in
set_option maxHeartbeats 800000 in
/-- Behind the tearing of a byte: the number of safe ones. -/
theorem crash_any {p o : Nat} {v : Value} {B : Nat} {bs : List Nat} {k : Nat} (w : World) (h : Ar w p o v B bs k) (hk : k ≤ bs.length) (E : Int) (t : Nat) (ht : t < 256) (c : Nat) (hc : c = min E.toNat (bs.length - k)) :
    Calls Try.prog 42 #[.pointer (some ⟨p, o, none⟩), .int .i64 E, .int .u8 (t : Int)] w fun e w' => e = .returned (.int .i64 0) ∧ Moved w p o v B (crashB bs k c t) (k + c) w' := by
  have hplt := h.plt
  have hkc : k + c ≤ bs.length := by omega
  obtain ⟨c0, c1, c2, f0, f1, f2⟩ := h.cells
  have hroom := h.room
  have hlen := h.len
  have hlv := leave_any w.drew h.drew 0 (k + c) (Nat.zero_le _) hkc
  rw [List.drop_zero] at hlv
  have hH := hide_it h
  obtain ⟨a, cap, rfl, _⟩ := h.own.row
  obtain ⟨L, hL⟩ : ∃ L, L = bs.length - k := ⟨_, rfl⟩
  have hw : IntKind.i64.wrap ((bs.length : Int) - (k : Int)) = (L : Int) := by rw [IntKind.wrap_i64]; omega
  have hw2 : IntKind.i64.wrap ((k : Int) + (c : Int)) = ((k + c : Nat) : Int) := by rw [IntKind.wrap_i64]; omega
  obtain ⟨S, hS⟩ : ∃ S, S = k + c := ⟨_, rfl⟩
  obtain ⟨M, hM⟩ : ∃ M : Int, (if E < 0 then 0 else E) = M := ⟨_, rfl⟩
  have hif : (if (L : Int) < M then (L : Int) else M) = (c : Int) := by
    rw [hc, ← hL, ← hM]
    by_cases h0 : E < 0
    · rw [if_pos h0, if_neg (by omega)]; omega
    · rw [if_neg h0]; split <;> omega
  rw [← hS] at hlv hw2
  have hlS : (bs.take S).length = S := by simp; omega
  have hS2 := hide_it hS
  have hR : crashB bs k c t = if 0 < c then tear (bs.take S) t else bs.take S := by unfold crashB; rw [hS]
  rw [← hS]
  replace hR := hide_it hR
  clear h hroom hlen hS hc hL hk hkc
  go_enter Try.func42, Try.ntmps42
  go_wp2_with fail
  refine wp_region_held_drew (S := (fun w' => Below w.heap.size w w')) (by kernel_rfl) ?_ (fun hHeld => ?_)
  · exact (Below.refl _ _).drew
  refine take_on (i := 0) (v := ?_) rfl rfl (by kernel_rfl) (by kernel_rfl) (by kernel_rfl) (fun _ _ _ h => h) rfl ?_ hHeld ?_
  rotate_left
  · (intro wq hSq; have q1 := (hSq.cell (p := ⟨p, o + 1, none⟩) hplt).trans c1; have q2 := (hSq.cell (p := ⟨p, o + 2, none⟩) hplt).trans c2; go_simp <;> first | with_reducible rfl | rfl)
  simp only [Act.put, List.setIfInBounds_toArray, List.set_cons_zero, List.set_cons_succ]
  refine take_on (i := 1) (v := ?_) rfl rfl (by kernel_rfl) (by kernel_rfl) (by kernel_rfl) (fun _ _ _ h => h) rfl ?_ hHeld ?_
  rotate_left
  · (intro wq hSq; have q1 := (hSq.cell (p := ⟨p, o + 1, none⟩) hplt).trans c1; have q2 := (hSq.cell (p := ⟨p, o + 2, none⟩) hplt).trans c2; go_simp <;> first | with_reducible rfl | rfl)
  simp only [Act.put, List.setIfInBounds_toArray, List.set_cons_zero, List.set_cons_succ]
  refine take_on (i := 2) (v := ?_) rfl rfl (by kernel_rfl) (by kernel_rfl) (by kernel_rfl) (fun _ _ _ h => h) rfl ?_ hHeld ?_
  rotate_left
  · (intro wq hSq; have q1 := (hSq.cell (p := ⟨p, o + 1, none⟩) hplt).trans c1; have q2 := (hSq.cell (p := ⟨p, o + 2, none⟩) hplt).trans c2; go_simp <;> first | with_reducible rfl | rfl)
  simp only [Act.put, List.setIfInBounds_toArray, List.set_cons_zero, List.set_cons_succ]
  refine take_on (i := 3) (v := ?_) rfl rfl (by kernel_rfl) (by kernel_rfl) (by kernel_rfl) (fun _ _ _ h => h) rfl ?_ hHeld ?_
  rotate_left
  · (intro wq hSq; have q1 := (hSq.cell (p := ⟨p, o + 1, none⟩) hplt).trans c1; have q2 := (hSq.cell (p := ⟨p, o + 2, none⟩) hplt).trans c2; go_simp <;> first | with_reducible rfl | rfl)
  simp only [Act.put, List.setIfInBounds_toArray, List.set_cons_zero, List.set_cons_succ]
  refine take_on (i := 4) (v := ?_) rfl rfl (by kernel_rfl) (by kernel_rfl) (by kernel_rfl) (fun _ _ _ h => h) rfl ?_ hHeld ?_
  rotate_left
  · (intro wq hSq; have q1 := (hSq.cell (p := ⟨p, o + 1, none⟩) hplt).trans c1; have q2 := (hSq.cell (p := ⟨p, o + 2, none⟩) hplt).trans c2; go_simp <;> first | with_reducible rfl | rfl)
  simp only [Act.put, List.setIfInBounds_toArray, List.set_cons_zero, List.set_cons_succ]
  refine take_on (i := 5) (v := ?_) rfl rfl (by kernel_rfl) (by kernel_rfl) (by kernel_rfl) (fun _ _ _ h => h) rfl ?_ hHeld ?_
  rotate_left
  · (intro wq hSq; have q1 := (hSq.cell (p := ⟨p, o + 1, none⟩) hplt).trans c1; have q2 := (hSq.cell (p := ⟨p, o + 2, none⟩) hplt).trans c2; go_simp <;> first | with_reducible rfl | rfl)
  simp only [Act.put, List.setIfInBounds_toArray, List.set_cons_zero, List.set_cons_succ]
  refine take_on (i := 6) (v := ?_) rfl rfl (by kernel_rfl) (by kernel_rfl) (by kernel_rfl) (fun _ _ _ h => h) rfl ?_ hHeld ?_
  rotate_left
  · (intro wq hSq; have q1 := (hSq.cell (p := ⟨p, o + 1, none⟩) hplt).trans c1; have q2 := (hSq.cell (p := ⟨p, o + 2, none⟩) hplt).trans c2; go_simp <;> first | with_reducible rfl | rfl)
  simp only [Act.put, List.setIfInBounds_toArray, List.set_cons_zero, List.set_cons_succ]
  refine take_on (i := 7) (v := ?_) rfl rfl (by kernel_rfl) (by kernel_rfl) (by kernel_rfl) (fun _ _ _ h => h) rfl ?_ hHeld ?_
  rotate_left
  · (intro wq hSq; have q1 := (hSq.cell (p := ⟨p, o + 1, none⟩) hplt).trans c1; have q2 := (hSq.cell (p := ⟨p, o + 2, none⟩) hplt).trans c2; go_simp <;> first | with_reducible rfl | rfl)
  simp only [Act.put, List.setIfInBounds_toArray, List.set_cons_zero, List.set_cons_succ]
  refine take_on (i := 8) (v := ?_) rfl rfl (by kernel_rfl) (by kernel_rfl) (by kernel_rfl) (fun _ _ _ h => h) rfl ?_ hHeld ?_
  rotate_left
  · (intro wq hSq; have q1 := (hSq.cell (p := ⟨p, o + 1, none⟩) hplt).trans c1; have q2 := (hSq.cell (p := ⟨p, o + 2, none⟩) hplt).trans c2; go_simp <;> first | with_reducible rfl | rfl)
  simp only [Act.put, List.setIfInBounds_toArray, List.set_cons_zero, List.set_cons_succ]
  refine take_on (i := 9) (v := ?_) rfl rfl (by kernel_rfl) (by kernel_rfl) (by kernel_rfl) (fun _ _ _ h => h) rfl ?_ hHeld ?_
  rotate_left
  · (intro wq hSq; have q1 := (hSq.cell (p := ⟨p, o + 1, none⟩) hplt).trans c1; have q2 := (hSq.cell (p := ⟨p, o + 2, none⟩) hplt).trans c2; go_simp <;> first | with_reducible rfl | rfl)
  simp only [Act.put, List.setIfInBounds_toArray, List.set_cons_zero, List.set_cons_succ]
  refine take_on (i := 10) (v := ?_) rfl rfl (by kernel_rfl) (by kernel_rfl) (by kernel_rfl) (fun _ _ _ h => h) rfl ?_ hHeld ?_
  rotate_left
  · (intro wq hSq; have q1 := (hSq.cell (p := ⟨p, o + 1, none⟩) hplt).trans c1; have q2 := (hSq.cell (p := ⟨p, o + 2, none⟩) hplt).trans c2; go_simp <;> first | with_reducible rfl | rfl)
  simp only [Act.put, List.setIfInBounds_toArray, List.set_cons_zero, List.set_cons_succ]
  refine take_on (i := 11) (v := ?_) rfl rfl (by kernel_rfl) (by kernel_rfl) (by kernel_rfl) (fun _ _ _ h => h) rfl ?_ hHeld ?_
  rotate_left
  · (intro wq hSq; have q1 := (hSq.cell (p := ⟨p, o + 1, none⟩) hplt).trans c1; have q2 := (hSq.cell (p := ⟨p, o + 2, none⟩) hplt).trans c2; go_simp <;> first | with_reducible rfl | rfl)
  simp only [Act.put, List.setIfInBounds_toArray, List.set_cons_zero, List.set_cons_succ]
  refine take_on (i := 12) (v := ?_) rfl rfl (by kernel_rfl) (by kernel_rfl) (by kernel_rfl) (fun _ _ _ h => h) rfl ?_ hHeld ?_
  rotate_left
  · (intro wq hSq; have q1 := (hSq.cell (p := ⟨p, o + 1, none⟩) hplt).trans c1; have q2 := (hSq.cell (p := ⟨p, o + 2, none⟩) hplt).trans c2; go_simp <;> first | with_reducible rfl | rfl)
  simp only [Act.put, List.setIfInBounds_toArray, List.set_cons_zero, List.set_cons_succ]
  refine take_on (i := 13) (v := ?_) rfl rfl (by kernel_rfl) (by kernel_rfl) (by kernel_rfl) (fun _ _ _ h => h) rfl ?_ hHeld ?_
  rotate_left
  · (intro wq hSq; have q1 := (hSq.cell (p := ⟨p, o + 1, none⟩) hplt).trans c1; have q2 := (hSq.cell (p := ⟨p, o + 2, none⟩) hplt).trans c2; go_simp <;> first | with_reducible rfl | rfl)
  simp only [Act.put, List.setIfInBounds_toArray, List.set_cons_zero, List.set_cons_succ]
  refine wpAnyH_done (by kernel_rfl) ?_ _
  go_wp2_with fail
  refine hlv.mono ?_
  rintro e w2 ⟨rfl, hmv⟩
  have hm2 := Moved.behind hH.out (Below.refl _ _).drew hmv
  obtain ⟨v2, hA2, hn2⟩ := hm2.ex
  have hplt2 := hA2.plt
  obtain ⟨a2, cap2, rfl, hrow2, _, _, hnil2⟩ := hA2.own.row
  obtain ⟨d0, d1, d2, g0, g1, g2⟩ := hA2.cells
  rw [hlS] at d2
  clear hlv hmv c0 c1 c2 f0 f1 f2 hif hM hw hw2
  by_cases hc0 : 0 < c
  · have hS0 : 0 < S := by have := hS2.out; omega
    obtain ⟨g, o2, rfl, hglt, hcell⟩ := hrow2.here (i := 0) (by rw [hlS]; exact hS0)
    have hci := hcell (S - 1) (by rw [hlS]; omega)
    have hw3 : IntKind.i64.wrap ((S : Int) - 1) = ((S - 1 : Nat) : Int) := by have := hA2.len; rw [hlS] at this; rw [IntKind.wrap_i64]; omega
    have hb8 : at0 (bs.take S) (S - 1) < 256 := hA2.all _ (at0_mem (by rw [hlS]; omega))
    have hx := u8_xor_nat _ t hb8 ht
    have hx8 : at0 (bs.take S) (S - 1) ^^^ t < 256 := Nat.xor_lt_two_pow (n := 8) hb8 ht
    have hne : p ≠ g := fun e => hA2.far (by rw [e]; rfl)
    have hng : Value.ownBlock (.slice a bs.length cap) = some g ∨ w.heap.size ≤ g := by
      rcases hn2 with h | h
      · exact .inl h.symm
      · exact .inr (h g rfl)
    have hft : w2.frozen? ⟨g, o2 + (S - 1), none⟩ = false := OwnS.thaw hA2.own _
    have hm3 := hm2.poke hA2 hng (i := S - 1) (by rw [hlS]; omega) _ hx8
    have htr : tear (bs.take S) t = (bs.take S).set (S - 1) (at0 (bs.take S) (S - 1) ^^^ t) := by unfold tear; rw [hlS]
    have hRR : crashB bs k c t = (bs.take S).set (S - 1) (at0 (bs.take S) (S - 1) ^^^ t) := by rw [hR.out, if_pos hc0, htr]
    obtain ⟨X, hX⟩ : ∃ X, X = at0 (bs.take S) (S - 1) := ⟨_, rfl⟩
    rw [← hX] at hci hx hm3 hRR
    obtain ⟨J, hJ⟩ : ∃ J, J = S - 1 := ⟨_, rfl⟩
    rw [← hJ] at hci hw3 hft hm3 hRR
    replace hRR := hide_it hRR
    have hJS : J < S := by omega
    have hm4 := hm3.drew
    have hm5 := hm4.put1 S
    obtain ⟨v4, hA4, _⟩ := hm4.ex
    have e2 : (w2.setCell ⟨g, o2 + J, none⟩ (.int .u8 ((X ^^^ t : Nat) : Int))).cell? ⟨p, o + 2, none⟩ = some (.slice (some ⟨g, o2, none⟩) S cap2) := (World.cell?_of_block (a := ⟨p, o + 2, none⟩) (Below.heap_setCell _ _ _ _ hne)).trans d2
    have e1 : (w2.setCell ⟨g, o2 + J, none⟩ (.int .u8 ((X ^^^ t : Nat) : Int))).cell? ⟨p, o + 1, none⟩ = some (.int .i64 (k : Int)) := (World.cell?_of_block (a := ⟨p, o + 1, none⟩) (Below.heap_setCell _ _ _ _ hne)).trans d1
    have e3 : (w2.setCell ⟨g, o2 + J, none⟩ (.int .u8 ((X ^^^ t : Nat) : Int))).frozen? ⟨p, o + 1, none⟩ = false := (World.frozen?_of_block (a := ⟨p, o + 1, none⟩) (Below.heap_setCell _ _ _ _ hne)).trans g1
    clear hX hJ htr hA4 hm4 hm3 hm2 hcell hrow2 hA2 hnil2 hb8 hn2
    go_wp2_with fail
    refine wp_region_held_drew (S := (fun w' => w'.heap[p]? = w2.heap[p]?)) (by kernel_rfl) ?_ (fun hHeld => ?_)
    · rfl
    refine take_on (i := 0) (v := ?_) rfl rfl (by kernel_rfl) (by kernel_rfl) (by kernel_rfl) (fun _ _ _ h => h) rfl ?_ hHeld ?_
    rotate_left
    · (intro wq hSq; have q2 := (World.cell?_of_block (w := w2) (a := ⟨p, o + 2, none⟩) hSq).trans d2; go_simp <;> first | with_reducible rfl | rfl)
    simp only [Act.put, List.setIfInBounds_toArray, List.set_cons_zero, List.set_cons_succ]
    refine take_on (i := 1) (v := ?_) rfl rfl (by kernel_rfl) (by kernel_rfl) (by kernel_rfl) (fun _ _ _ h => h) rfl ?_ hHeld ?_
    rotate_left
    · (intro wq hSq; have q2 := (World.cell?_of_block (w := w2) (a := ⟨p, o + 2, none⟩) hSq).trans d2; go_simp <;> first | with_reducible rfl | rfl)
    simp only [Act.put, List.setIfInBounds_toArray, List.set_cons_zero, List.set_cons_succ]
    refine take_on (i := 2) (v := ?_) rfl rfl (by kernel_rfl) (by kernel_rfl) (by kernel_rfl) (fun _ _ _ h => h) rfl ?_ hHeld ?_
    rotate_left
    · (intro wq hSq; have q2 := (World.cell?_of_block (w := w2) (a := ⟨p, o + 2, none⟩) hSq).trans d2; go_simp <;> first | with_reducible rfl | rfl)
    simp only [Act.put, List.setIfInBounds_toArray, List.set_cons_zero, List.set_cons_succ]
    refine take_on (i := 3) (v := ?_) rfl rfl (by kernel_rfl) (by kernel_rfl) (by kernel_rfl) (fun _ _ _ h => h) rfl ?_ hHeld ?_
    rotate_left
    · (intro wq hSq; have q2 := (World.cell?_of_block (w := w2) (a := ⟨p, o + 2, none⟩) hSq).trans d2; go_simp <;> first | with_reducible rfl | rfl)
    simp only [Act.put, List.setIfInBounds_toArray, List.set_cons_zero, List.set_cons_succ]
    refine take_on (i := 4) (v := ?_) rfl rfl (by kernel_rfl) (by kernel_rfl) (by kernel_rfl) (fun _ _ _ h => h) rfl ?_ hHeld ?_
    rotate_left
    · (intro wq hSq; have q2 := (World.cell?_of_block (w := w2) (a := ⟨p, o + 2, none⟩) hSq).trans d2; go_simp <;> first | with_reducible rfl | rfl)
    simp only [Act.put, List.setIfInBounds_toArray, List.set_cons_zero, List.set_cons_succ]
    refine take_on (i := 5) (v := ?_) rfl rfl (by kernel_rfl) (by kernel_rfl) (by kernel_rfl) (fun _ _ _ h => h) rfl ?_ hHeld ?_
    rotate_left
    · (intro wq hSq; have q2 := (World.cell?_of_block (w := w2) (a := ⟨p, o + 2, none⟩) hSq).trans d2; go_simp <;> first | with_reducible rfl | rfl)
    simp only [Act.put, List.setIfInBounds_toArray, List.set_cons_zero, List.set_cons_succ]
    refine take_on (i := 6) (v := ?_) rfl rfl (by kernel_rfl) (by kernel_rfl) (by kernel_rfl) (fun _ _ _ h => h) rfl ?_ hHeld ?_
    rotate_left
    · (intro wq hSq; have q2 := (World.cell?_of_block (w := w2) (a := ⟨p, o + 2, none⟩) hSq).trans d2; go_simp <;> first | with_reducible rfl | rfl)
    simp only [Act.put, List.setIfInBounds_toArray, List.set_cons_zero, List.set_cons_succ]
    refine take_on (i := 7) (v := ?_) rfl rfl (by kernel_rfl) (by kernel_rfl) (by kernel_rfl) (fun _ _ _ h => h) rfl ?_ hHeld ?_
    rotate_left
    · (intro wq hSq; have q2 := (World.cell?_of_block (w := w2) (a := ⟨p, o + 2, none⟩) hSq).trans d2; go_simp <;> first | with_reducible rfl | rfl)
    simp only [Act.put, List.setIfInBounds_toArray, List.set_cons_zero, List.set_cons_succ]
    refine take_on (i := 8) (v := ?_) rfl rfl (by kernel_rfl) (by kernel_rfl) (by kernel_rfl) (fun _ _ _ h => h) rfl ?_ hHeld ?_
    rotate_left
    · (intro wq hSq; have q2 := (World.cell?_of_block (w := w2) (a := ⟨p, o + 2, none⟩) hSq).trans d2; go_simp <;> first | with_reducible rfl | rfl)
    simp only [Act.put, List.setIfInBounds_toArray, List.set_cons_zero, List.set_cons_succ]
    refine take_on (i := 9) (v := ?_) rfl rfl (by kernel_rfl) (by kernel_rfl) (by kernel_rfl) (fun _ _ _ h => h) rfl ?_ hHeld ?_
    rotate_left
    · (intro wq hSq; have q2 := (World.cell?_of_block (w := w2) (a := ⟨p, o + 2, none⟩) hSq).trans d2; go_simp <;> first | with_reducible rfl | rfl)
    simp only [Act.put, List.setIfInBounds_toArray, List.set_cons_zero, List.set_cons_succ]
    refine take_on (i := 10) (v := ?_) rfl rfl (by kernel_rfl) (by kernel_rfl) (by kernel_rfl) (fun _ _ _ h => h) rfl ?_ hHeld ?_
    rotate_left
    · (intro wq hSq; have q2 := (World.cell?_of_block (w := w2) (a := ⟨p, o + 2, none⟩) hSq).trans d2; go_simp <;> first | with_reducible rfl | rfl)
    simp only [Act.put, List.setIfInBounds_toArray, List.set_cons_zero, List.set_cons_succ]
    refine take_on (i := 12) (v := ?_) rfl rfl (by kernel_rfl) (by kernel_rfl) (by kernel_rfl) (fun _ _ _ h => h) rfl ?_ hHeld ?_
    rotate_left
    · (intro wq hSq; have q2 := (World.cell?_of_block (w := w2) (a := ⟨p, o + 2, none⟩) hSq).trans d2; go_simp <;> first | with_reducible rfl | rfl)
    simp only [Act.put, List.setIfInBounds_toArray, List.set_cons_zero, List.set_cons_succ]
    refine take_one (i := 11) rfl (by kernel_rfl) (fun K hK => ?_)
    go_simp
    skip
    try go_wp2_with fail
    refine hK.out _ _ ?_ (fun hHeld => ?_)
    · exact hHeld
    clear hK K
    try simp only [Act.put, List.setIfInBounds_toArray, List.set_cons_zero, List.set_cons_succ]
    refine take_on (i := 13) (v := ?_) rfl rfl (by kernel_rfl) (by kernel_rfl) (by kernel_rfl) (fun _ _ _ h => h) rfl ?_ hHeld ?_
    rotate_left
    · (intro wq hSq; have q2 := (World.cell?_of_block (w := w2) (a := ⟨p, o + 2, none⟩) hSq).trans d2; go_simp <;> first | with_reducible rfl | rfl)
    simp only [Act.put, List.setIfInBounds_toArray, List.set_cons_zero, List.set_cons_succ]
    refine take_on (i := 14) (v := ?_) rfl rfl (by kernel_rfl) (by kernel_rfl) (by kernel_rfl) (fun _ _ _ h => h) rfl ?_ hHeld ?_
    rotate_left
    · (intro wq hSq; have q2 := (World.cell?_of_block (w := w2) (a := ⟨p, o + 2, none⟩) hSq).trans d2; go_simp <;> first | with_reducible rfl | rfl)
    simp only [Act.put, List.setIfInBounds_toArray, List.set_cons_zero, List.set_cons_succ]
    refine take_one (i := 15) rfl (by kernel_rfl) (fun K hK => ?_)
    go_simp
    skip
    try go_wp2_with fail
    refine hK.out _ _ ?_ (fun hHeld => ?_)
    · exact (Below.heap_setCell _ _ _ _ hne)
    clear hK K
    try simp only [Act.put, List.setIfInBounds_toArray, List.set_cons_zero, List.set_cons_succ]
    refine wpAnyH_done (by kernel_rfl) ?_ _
    go_wp2_with fail
    go_ret
    exact ⟨rfl, by rw [hRR.out]; exact hm5⟩
  · have hRR : Hid (crashB bs k c t = bs.take S) := by
      unfold Hid; rw [hR.out, if_neg hc0]
    have hc1 : c = 0 := by omega
    have hm5 := hm2.put1 S
    clear hA2 hrow2 hnil2 hm2 hn2
    subst hc1
    go_wp2_with fail
    go_ret
    exact ⟨rfl, by rw [hRR.out]; exact hm5⟩

end Go.Proofs.Ytdodnegdpdhbiaa
