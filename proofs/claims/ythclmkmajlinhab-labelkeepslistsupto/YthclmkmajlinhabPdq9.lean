/- Breaking patterns, in the library's sort at labels. -/
import Derived.Test.YthclmkmajlinhabPdq8
namespace Go.Proofs.Ythclmkmajlinhab
open Go.RowKit

theorem bitLen_lt (n : Nat) : n < 18446744073709551616 → n < 2 ^ Lib.bitLen n := by
  induction n using Nat.strongRecOn with
  | _ n ih =>
    intro h
    by_cases h0 : n = 0
    · subst h0; exact Nat.two_pow_pos _
    · rw [Lib.bitLen_half n h0 h, Nat.add_comm, Nat.pow_succ]
      have := ih (n / 2) (by omega) (by omega)
      generalize 2 ^ Lib.bitLen (n / 2) = p at *
      omega
theorem bitLen_le2 (n : Nat) : n < 18446744073709551616 → 0 < n → 2 ^ Lib.bitLen n ≤ 2 * n := by
  induction n using Nat.strongRecOn with
  | _ n ih =>
    intro h hp
    rw [Lib.bitLen_half n (by omega) h, Nat.add_comm, Nat.pow_succ]
    by_cases h1 : n = 1
    · subst h1; decide
    · have := ih (n / 2) (by omega) (by omega) (by omega)
      generalize 2 ^ Lib.bitLen (n / 2) = p at *
      omega

set_option maxHeartbeats 400000 in
theorem nextPower_any (n : Nat) (w : World) (h0 : 0 < n) (hn : n ≤ 2305843009213693952) :
    Calls Try.prog 69 #[.int .i64 (n : Int)] w fun e w' => ∃ M : Nat, n < M ∧ M ≤ 2 * n ∧ e = .returned (.int .u64 (M : Int)) ∧ w' = w := by
  have h1 := bitLen_lt n (by omega)
  have h2 := bitLen_le2 n (by omega) h0
  have h3 : Lib.bitLen n ≤ 62 := Lib.bitLen_le n 62 (by omega) (by omega)
  have hl := len_int n w (by omega)
  generalize Lib.bitLen n = k at *
  obtain ⟨M, hM⟩ : ∃ M, M = 2 ^ k := ⟨_, rfl⟩
  rw [← hM] at h1 h2
  have hp : IntKind.u64.wrap ((2 : Int) ^ k) = (M : Int) := by
    rw [IntKind.wrap_u64, show ((2 : Int) ^ k) = ((2 ^ k : Nat) : Int) by push_cast; rfl, ← hM]
    omega
  clear hM
  go_enter Try.func69, Try.ntmps69
  go_wp2_with (go_at_call 39; refine hl.mono ?_; rintro e w' ⟨rfl, rfl⟩)
  go_ret
  exact ⟨M, h1, h2, rfl, rfl⟩

/-- A row under breaking, and the box of the numbers at random. -/
structure BState (g s a b n : Nat) (zs : List Nat) (rest : List Value) (w wr : World) (zk : List Nat) (X : Nat) : Prop where
  len : zk.length = n
  wit : within a b zs zk
  blk : Blk .u64 36 wr g zk rest
  gr : w.grownBy wr (some g)
  big : X < 18446744073709551616
  box : wr.heap[s]? = some (.cells #[.int .u64 (X : Int)] 96 (0, 0))
  new : w.heap.size ≤ s
  old : g < w.heap.size

theorem BState.next {g s a b n : Nat} {zs : List Nat} {rest : List Value} {w wr w1 : World} {zk : List Nat} {X Y : Nat} (h : BState g s a b n zs rest w wr zk X) (hY : Y < 18446744073709551616) (hb : w1.heap[s]? = some (.cells #[.int .u64 (Y : Int)] 96 (0, 0))) (hg : wr.grownBy w1 (some s)) : BState g s a b n zs rest w w1 zk Y := by
  have h1 := h.new
  have h2 := h.old
  have h3 := h.gr.size
  exact ⟨h.len, h.wit, (hg.block g (by omega) (by simp; omega)).trans h.blk, ⟨hg.os.trans h.gr.os, hg.tape.trans h.gr.tape, hg.output.trans h.gr.output, by have := hg.size; omega, fun k hk hne => (hg.block k (by omega) (by simp; omega)).trans (h.gr.block k hk hne)⟩, hY, hb, h1, h2⟩
theorem BState.drewN {g s a b n : Nat} {zs : List Nat} {rest : List Value} {w wr : World} {zk : List Nat} {X : Nat} (h : BState g s a b n zs rest w wr zk X) (q : Nat) : BState g s a b n zs rest w (wr.drewN q) zk X :=
  ⟨h.len, h.wit, h.blk.drewN q, grown_drewN h.gr q, h.big, by rw [heap_drewN]; exact h.box, h.new, h.old⟩
theorem BState.swap {g s a b n : Nat} {zs : List Nat} {rest : List Value} {w wr : World} {zk : List Nat} {X : Nat} (h : BState g s a b n zs rest w wr zk X) {i j : Nat} (hai : a ≤ i) (hib : i < b) (haj : a ≤ j) (hjb : j < b) (hb : b ≤ n) :
    BState g s a b n zs rest w ((wr.setCell ⟨g, i, none⟩ (.int .u64 ((at0 zk j : Nat) : Int))).setCell ⟨g, j, none⟩ (.int .u64 ((at0 zk i : Nat) : Int))) (swapL zk i j) X := by
  have hn := h.len
  have h1 := h.new
  have h2 := h.old
  have hne : s ≠ g := by omega
  exact ⟨(swapL_length _ _).trans hn, h.wit.trans (within.swap hai haj hib hjb (by omega)), (h.blk.set (i := i) (by omega) _).set (i := j) (by simp; omega) _, grown_set (grown_set h.gr _ _) _ _, h.big, (Below.heap_setCell _ _ _ _ hne).trans ((Below.heap_setCell _ _ _ _ hne).trans h.box), h1, h2⟩

set_option maxRecDepth 100000 in
set_option maxHeartbeats 2000000 in
theorem breakPatterns_lab (g n cap a b L : Nat) (zs : List Nat) (rest : List Value) (w : World) (hB : Blk .u64 36 w g zs rest) (hn : zs.length = n) (hbe : b = a + L) (hL : 8 ≤ L) (hb : b ≤ n) (hl : n ≤ 2305843009213693952) :
    Calls Try.prog 61 #[.slice (some ⟨g, 0, none⟩) n cap, .int .i64 (a : Int), .int .i64 (b : Int)] w fun e w' => e = .returned (.tuple #[]) ∧ ∃ zs', Moved g a b n zs rest w w' zs' := by
  have hLe : (b : Int) - (a : Int) = (L : Int) := by omega
  have hL8 : (8 : Int) ≤ (L : Int) := by omega
  have hLb : L ≤ 2305843009213693952 := by omega
  obtain ⟨Q, hQ⟩ : ∃ Q, Q = L / 4 := ⟨_, rfl⟩
  have hQ1 : (L : Int) / 4 = (Q : Int) := by omega
  have hQ2 : (L : Int).tdiv 4 = (Q : Int) := by rw [Int.tdiv_eq_ediv_of_nonneg (by omega)]; omega
  obtain ⟨E, hE⟩ : ∃ E, E = a + Q * 2 := ⟨_, rfl⟩
  have HC : Hid (b = a + L ∧ Q = L / 4 ∧ E = a + Q * 2) := ⟨hbe, hQ, hE⟩
  have hw1 : IntKind.i64.wrap ((a : Int) + (Q : Int) * 2) = (E : Int) := by rw [i64_at (by omega) (by omega)]; omega
  have hE1 : (a : Int) + (Q : Int) * 2 = (E : Int) := by omega
  have hEb : E + 1 < b := by omega
  have haE : a + 1 ≤ E := by omega
  have hsz := hB.lt
  have hst0 : BState g w.heap.size a b n zs rest w (w.alloc (.cells #[.int .u64 (L : Int)] 96)) zs L := by
    have h1 := hB.lt
    refine ⟨hn, within.refl _ _ _, ?_, World.grownBy_alloc _ _ _, by omega, heap_alloc_new _ _, Nat.le_refl _, h1⟩
    exact ((World.grownBy_alloc w _ none).block g h1 (by simp)).trans hB
  have HST := hide_it hst0
  clear hbe hQ hE hst0
  go_enter Try.func61, Try.ntmps61
  go_wp2_with fail
  refine (nextPower_any L _ (by omega) (by omega)).mono ?_
  rintro e w1 ⟨M, hM1, hM2, rfl, rfl⟩
  go_wp2_with fail
  go_loopw [9] (fun i wr => ∃ (k X : Nat) (zk : List Nat), i = .int .i64 k ∧ a ≤ k ∧ k ≤ E + 2 ∧ BState g w.heap.size a b n zs rest w wr zk X) (fun i _ => E + 2 - (intOf i).toNat)
  case atStart => exact ⟨E - 1, L, zs, by congr 1; omega, by omega, by omega, HST.out⟩
  case round =>
    clear HST
    obtain ⟨k, X, zk, rfl, hak, hkE, hst⟩ := hrel
    by_cases hk : k ≤ E + 1
    · have hk1 : (k : Int) ≤ (E : Int) + 1 := by omega
      go_wp2_with fail
      refine (next_any w.heap.size X hst.big 96 _ hst.box).mono ?_
      rintro e w1 ⟨Y, hY, rfl, hbox, hgr1⟩
      have hst1 := hst.next hY hbox hgr1
      obtain ⟨O, hO⟩ : ∃ O, O = Y &&& (M - 1) := ⟨_, rfl⟩
      have hO1 : O ≤ M - 1 := by rw [hO]; exact Nat.and_le_right
      have hO2 : bits .and .u64 (Y : Int) ((M : Int) - 1) = (O : Int) := by
        rw [show (M : Int) - 1 = ((M - 1 : Nat) : Int) by omega, bits_and_u64_nat _ _ hY (by omega), hO]
      clear hO hst hbox hgr1
      obtain ⟨O', hO'⟩ : ∃ O', O' = if L ≤ O then O - L else O := ⟨_, rfl⟩
      have hOL : O' < L := by
        rw [hO']
        split <;> omega
      obtain ⟨P, hP⟩ : ∃ P, P = a + O' := ⟨_, rfl⟩
      have hwP : IntKind.i64.wrap ((a : Int) + (O' : Int)) = (P : Int) := by rw [i64_at (by omega) (by omega)]; omega
      have hcb := HC.out.1
      have hln := hst1.len
      have hc1 := hst1.blk.cell (i := k) (by omega)
      have hc2 := hst1.blk.cell (i := P) (by omega)
      obtain ⟨x, hx⟩ : ∃ x, x = at0 zk k := ⟨_, rfl⟩
      obtain ⟨y, hy⟩ : ∃ y, y = at0 zk P := ⟨_, rfl⟩
      have HX := hide_it hx
      have HY := hide_it hy
      rw [← hx] at hc1
      rw [← hy] at hc2
      have hf1 := hst1.blk.frozen k
      have hf2 := hst1.blk.frozen P
      have hB1 := hst1.blk.set (i := k) (by omega) y
      have hc3 := hB1.cell (i := P) (by simp; omega)
      have hf3 := hB1.frozen P
      generalize at0 (zk.set k y) P = z at hc3
      have hi1 : (k : Int) < (n : Int) := by omega
      have hi2 : (P : Int) < (n : Int) := by omega
      have hPb : P < b := by omega
      have haP : a ≤ P := by omega
      have HS := hide_it hst1
      have HOO := hide_it hO'
      by_cases hLO : L ≤ O
      · rw [if_pos hLO] at hO'
        have hLO1 : (L : Int) ≤ (O : Int) := by omega
        have hsub : (O : Int) - (L : Int) = (O' : Int) := by omega
        clear hx hy hB1 hst1 hO' hP hcb hln HOO
        go_wp2
        go_region
        all_goals go_wp2
        go_roundw
        case rel =>
          have hz := (HS.out.swap hak (by omega) haP hPb hb).drewN 1
          rw [← HX.out, ← HY.out] at hz
          exact ⟨k + 1, Y, _, by go_num, by omega, by omega, hz⟩
        case measure => simp [intOf] <;> omega
      · rw [if_neg hLO] at hO'
        have hLO1 : (O : Int) < (L : Int) := by omega
        subst hO'
        clear hx hy hB1 hst1 hP hcb hln HOO
        go_wp2
        go_region
        all_goals go_wp2
        go_roundw
        case rel =>
          have hz := (HS.out.swap hak (by omega) haP hPb hb).drewN 1
          rw [← HX.out, ← HY.out] at hz
          exact ⟨k + 1, Y, _, by go_num, by omega, by omega, hz⟩
        case measure => simp [intOf] <;> omega
    · have hk1 : (E : Int) + 1 < (k : Int) := by omega
      go_wp2
      go_end0
      exact ⟨rfl, zk, hst.len, hst.wit, hst.blk, hst.gr⟩

end Go.Proofs.Ythclmkmajlinhab
