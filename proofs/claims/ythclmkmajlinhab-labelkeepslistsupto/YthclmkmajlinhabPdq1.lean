/- The parts of the library's sort at labels that only exchange or only look. -/
import Derived.Test.YthclmkmajlinhabSort2
namespace Go.Proofs.Ythclmkmajlinhab
open Go.RowKit

/-- What a part of the sort does that works within [a, b): a permutation there, nothing else is written. -/
def Moved (g a b n : Nat) (zs : List Nat) (rest : List Value) (w w' : World) (zs' : List Nat) : Prop :=
  zs'.length = n ∧ within a b zs zs' ∧ Blk .u64 36 w' g zs' rest ∧ w.grownBy w' (some g)

set_option maxHeartbeats 1000000 in
theorem reverse_lab (g n cap a b : Nat) (zs : List Nat) (rest : List Value) (w : World) (hB : Blk .u64 36 w g zs rest) (hn : zs.length = n) (hab : a < b) (hb : b ≤ n) (hl : n ≤ 4611686018427387904) :
    Calls Try.prog 63 #[.slice (some ⟨g, 0, none⟩) n cap, .int .i64 (a : Int), .int .i64 (b : Int)] w fun e w' => e = .returned (.tuple #[]) ∧ ∃ zs', Moved g a b n zs rest w w' zs' := by
  go_enter Try.func63, Try.ntmps63
  go_wp2
  go_loopw [6, 7] (fun i j wr => ∃ (p q : Nat) (zk : List Nat), i = .int .i64 p ∧ j = .int .i64 q ∧ a ≤ p ∧ q < b ∧ p + q + 1 = a + b ∧ Hid (zk.length = n ∧ within a b zs zk) ∧ Blk .u64 36 wr g zk rest ∧ w.grownBy wr (some g)) (fun i _ _ => b - (intOf i).toNat)
  case atStart => exact ⟨a, b - 1, zs, rfl, by congr 1; omega, by omega, by omega, by omega, ⟨hn, within.refl _ _ _⟩, hB, World.grownBy.refl _ _⟩
  case round =>
    obtain ⟨p, q, zk, rfl, rfl, hap, hqb, hpq, hk, hblk, hgr⟩ := hrel
    have hl1 := hk.out.1
    by_cases hlt : p < q
    · have hc1 := hblk.cell (i := p) (by omega)
      have hc2 := hblk.cell (i := q) (by omega)
      have hf1 := hblk.frozen p
      have hf2 := hblk.frozen q
      clear hl1
      obtain ⟨x, hx⟩ : ∃ x, x = at0 zk p := ⟨_, rfl⟩
      obtain ⟨y, hy⟩ : ∃ y, y = at0 zk q := ⟨_, rfl⟩
      have HX : Hid (x = at0 zk p) := hx
      have HY : Hid (y = at0 zk q) := hy
      rw [← hx] at hc1
      rw [← hy] at hc2
      clear hx hy
      have hi1 : (p : Int) < (n : Int) := by omega
      have hi2 : (q : Int) < (n : Int) := by omega
      go_wp2
      go_region
      all_goals go_wp2
      go_roundw
      case rel =>
        obtain ⟨h1, hwi⟩ := hk.out
        have hb2 := (((hblk.drewN 1).set (i := p) (by omega) y).set (i := q) (by simp; omega) x)
        rw [HY.out, HX.out] at hb2
        have hb3 : Blk .u64 36 (((wr.drewN 1).setCell ⟨g, p, none⟩ (.int .u64 ((at0 zk q : Nat) : Int))).setCell ⟨g, q, none⟩ (.int .u64 ((at0 zk p : Nat) : Int))) g (swapL zk p q) rest := hb2
        rw [HY.out, HX.out]
        exact ⟨p + 1, q - 1, swapL zk p q, by go_num, by congr 1; omega, by omega, by omega, by omega, ⟨(swapL_length _ _).trans h1, hwi.trans (within.swap (by omega) (by omega) (by omega) (by omega) (by omega))⟩, hb3, grown_set (grown_set (grown_drewN hgr _) _ _) _ _⟩
      case measure => simp [intOf]; omega
    · go_wp2
      go_end0
      exact ⟨rfl, zk, hk.out.1, hk.out.2, hblk, hgr⟩

theorem heap_drewN (w : World) (q : Nat) : (w.drewN q).heap = w.heap := by
  induction q with
  | zero => rfl
  | succ q ih => exact ih

set_option maxHeartbeats 400000 in
theorem order2_lab (g n cap a b s : Nat) (zs : List Nat) (rest : List Value) (w : World) (m : Int) (hB : Blk .u64 36 w g zs rest) (hn : zs.length = n) (ha : a < n) (hb : b < n) (_hl : n ≤ 4611686018427387904)
    (hs : w.heap[s]? = some (.cells #[.int .i64 m] 3 (0, 0))) (hm0 : 0 ≤ m) (hm : m ≤ 100) :
    Calls Try.prog 80 #[.slice (some ⟨g, 0, none⟩) n cap, .int .i64 (a : Int), .int .i64 (b : Int), .pointer (some ⟨s, 0, none⟩)] w fun e w' => ∃ (p q : Nat) (m' : Int), e = .returned (.tuple #[.int .i64 (p : Int), .int .i64 (q : Int)]) ∧ (p = a ∨ p = b) ∧ (q = a ∨ q = b) ∧
      0 ≤ m' ∧ m' ≤ m + 1 ∧ w'.heap[s]? = some (.cells #[.int .i64 m'] 3 (0, 0)) ∧ w.grownBy w' (some s) := by
  have hc1 := hB.cell (i := a) (by omega)
  have hc2 := hB.cell (i := b) (by omega)
  have hsc : w.cell? ⟨s, 0, none⟩ = some (.int .i64 m) := by rw [cell_of_row _ _ _ _ _ _ hs]; rfl
  have hsf := frozen_of_row w s 0 _ _ hs
  generalize at0 zs a = x at *
  generalize at0 zs b = y at *
  have hi1 : (a : Int) < (n : Int) := by omega
  have hi2 : (b : Int) < (n : Int) := by omega
  have hset : ∀ (u : Value) (q : Nat), ((w.drewN q).setCell ⟨s, 0, none⟩ u).heap[s]? = some (.cells #[u] 3 (0, 0)) := fun u q => by
    have h := heap_setCell_same (w.drewN q) s 0 #[.int .i64 m] 3 u (by rw [heap_drewN]; exact hs)
    exact h
  go_enter Try.func80, Try.ntmps80
  by_cases hxy : y < x
  · have hdx : decide (y < x) = true := by simpa using hxy
    go_wp2
    go_quiet ((go_at_call 65; exact Calls.quiet_of_same (less_lab _ _ _)))
    go_wp2
    go_ret2
    exact ⟨b, a, m + 1, rfl, .inr rfl, .inl rfl, by omega, by omega, hset _ _, grown_set (grown_drewN (World.grownBy.refl _ _) _) _ _⟩
  · have hdx : decide (y < x) = false := by simpa using hxy
    go_wp2
    go_quiet ((go_at_call 65; exact Calls.quiet_of_same (less_lab _ _ _)))
    go_wp2
    go_ret2
    exact ⟨a, b, m, rfl, .inl rfl, .inr rfl, by omega, by omega, by rw [heap_drewN]; exact hs, grown_drewN (World.grownBy.refl _ _) _⟩

/-- What is held while the pivot is looked for: the row, and the box of the count of exchanges. -/
structure Look (g s n : Nat) (zs : List Nat) (rest : List Value) (w : World) (m : Int) : Prop where
  blk : Blk .u64 36 w g zs rest
  box : w.heap[s]? = some (.cells #[.int .i64 m] 3 (0, 0))
  low : 0 ≤ m
  len : zs.length = n
  ne : g ≠ s
theorem Look.next {g s n : Nat} {zs : List Nat} {rest : List Value} {w w' : World} {m m' : Int} (h : Look g s n zs rest w m) (hb : w'.heap[s]? = some (.cells #[.int .i64 m'] 3 (0, 0))) (h0 : 0 ≤ m') (hg : w.grownBy w' (some s)) : Look g s n zs rest w' m' :=
  ⟨(hg.block g h.blk.lt (fun e => h.ne (by simpa using e))).trans h.blk, hb, h0, h.len, h.ne⟩

set_option maxHeartbeats 400000 in
theorem median_lab (g n cap a b c s : Nat) (zs : List Nat) (rest : List Value) (w : World) (m : Int) (h : Look g s n zs rest w m) (ha : a < n) (hb : b < n) (hc : c < n) (hl : n ≤ 4611686018427387904) (hm : m ≤ 90) :
    Calls Try.prog 77 #[.slice (some ⟨g, 0, none⟩) n cap, .int .i64 (a : Int), .int .i64 (b : Int), .int .i64 (c : Int), .pointer (some ⟨s, 0, none⟩)] w fun e w' => ∃ (p : Nat) (m' : Int), e = .returned (.int .i64 (p : Int)) ∧ (p = a ∨ p = b ∨ p = c) ∧
      m' ≤ m + 3 ∧ Look g s n zs rest w' m' ∧ w.grownBy w' (some s) := by
  go_enter Try.func77, Try.ntmps77
  go_wp2_with fail
  refine (order2_lab g n cap a b s zs rest w m h.blk h.len ha hb hl h.box h.low (by omega)).mono ?_
  rintro e w1 ⟨p1, q1, m1, rfl, hp1, hq1, hm10, hm1, hb1, hg1⟩
  have h1 := h.next hb1 hm10 hg1
  go_wp2_with fail
  refine (order2_lab g n cap q1 c s zs rest w1 m1 h1.blk h1.len (by omega) hc hl h1.box h1.low (by omega)).mono ?_
  rintro e w2 ⟨p2, q2, m2, rfl, hp2, hq2, hm20, hm2, hb2, hg2⟩
  have h2 := h1.next hb2 hm20 hg2
  go_wp2_with fail
  refine (order2_lab g n cap p1 p2 s zs rest w2 m2 h2.blk h2.len (by omega) (by omega) hl h2.box h2.low (by omega)).mono ?_
  rintro e w3 ⟨p3, q3, m3, rfl, hp3, hq3, hm30, hm3, hb3, hg3⟩
  have h3 := h2.next hb3 hm30 hg3
  go_wp2
  go_ret
  exact ⟨q3, m3, rfl, by omega, by omega, h3, (hg1.trans hg2).trans hg3⟩

set_option maxHeartbeats 400000 in
theorem medianAdj_lab (g n cap a s : Nat) (zs : List Nat) (rest : List Value) (w : World) (m : Int) (h : Look g s n zs rest w m) (ha : 1 ≤ a) (hb : a + 1 < n) (hl : n ≤ 4611686018427387904) (hm : m ≤ 90) :
    Calls Try.prog 76 #[.slice (some ⟨g, 0, none⟩) n cap, .int .i64 (a : Int), .pointer (some ⟨s, 0, none⟩)] w fun e w' => ∃ (p : Nat) (m' : Int), e = .returned (.int .i64 (p : Int)) ∧ a - 1 ≤ p ∧ p ≤ a + 1 ∧
      m' ≤ m + 3 ∧ Look g s n zs rest w' m' ∧ w.grownBy w' (some s) := by
  go_enter Try.func76, Try.ntmps76
  go_wp2_with fail
  rw [show ((a : Int) - 1) = ((a - 1 : Nat) : Int) by omega, show ((a : Int) + 1) = ((a + 1 : Nat) : Int) by omega]
  refine (median_lab g n cap (a - 1) a (a + 1) s zs rest w m h (by omega) (by omega) hb hl hm).mono ?_
  rintro e w1 ⟨p, m1, rfl, hp, hm1, h1, hg1⟩
  go_wp2
  go_ret
  exact ⟨p, m1, rfl, by omega, by omega, hm1, h1, hg1⟩

set_option maxHeartbeats 1000000 in
theorem choosePivot_lab (g n cap a b : Nat) (zs : List Nat) (rest : List Value) (w : World) (hB : Blk .u64 36 w g zs rest) (hn : zs.length = n) (hab : a + 12 < b) (hb : b ≤ n) (hl : n ≤ 4611686018427387904) :
    Calls Try.prog 62 #[.slice (some ⟨g, 0, none⟩) n cap, .int .i64 (a : Int), .int .i64 (b : Int)] w fun e w' => ∃ (p : Nat) (t : Int), e = .returned (.tuple #[.int .i64 (p : Int), .int .i64 t]) ∧ a ≤ p ∧ p < b ∧ (t = 0 ∨ t = 1 ∨ t = 2) ∧ Below w.heap.size w w' := by
  have hlt := hB.lt
  have hg0 : Look g w.heap.size n zs rest (w.alloc (.cells #[.int .i64 0] 3)) 0 := ⟨(Below.heap_alloc _ _ _ hlt).trans hB, heap_alloc_new w _, by omega, hn, by omega⟩
  by_cases h50 : a + 50 ≤ b
  · have h5 : (50 : Int) ≤ (b : Int) - (a : Int) := by omega
    go_enter Try.func62, Try.ntmps62
    go_wp2_with fail
    rw [show (a : Int) + ((b : Int) - a) / 4 = ((a + (b - a) / 4 : Nat) : Int) by omega]
    refine (medianAdj_lab g n cap (a + (b - a) / 4) w.heap.size zs rest _ 0 hg0 (by omega) (by omega) hl (by omega)).mono ?_
    rintro e w1 ⟨p1, m1, rfl, hp1, hp1', hm1, h1, g1⟩
    go_wp2_with fail
    rw [show (a : Int) + ((b : Int) - a) / 4 * 2 = ((a + (b - a) / 4 * 2 : Nat) : Int) by omega]
    refine (medianAdj_lab g n cap (a + (b - a) / 4 * 2) w.heap.size zs rest w1 m1 h1 (by omega) (by omega) hl (by omega)).mono ?_
    rintro e w2 ⟨p2, m2, rfl, hp2, hp2', hm2, h2, g2⟩
    go_wp2_with fail
    rw [show (a : Int) + ((b : Int) - a) / 4 * 3 = ((a + (b - a) / 4 * 3 : Nat) : Int) by omega]
    refine (medianAdj_lab g n cap (a + (b - a) / 4 * 3) w.heap.size zs rest w2 m2 h2 (by omega) (by omega) hl (by omega)).mono ?_
    rintro e w3 ⟨p3, m3, rfl, hp3, hp3', hm3, h3, g3⟩
    go_wp2_with fail
    refine (median_lab g n cap p1 p2 p3 w.heap.size zs rest w3 m3 h3 (by omega) (by omega) (by omega) hl (by omega)).mono ?_
    rintro e w4 ⟨p4, m4, rfl, hp4, hm4, h4, g4⟩
    have g5 := ((g1.trans g2).trans g3).trans g4
    have hbx := h4.box
    have hg := g5
    clear g1 g2 g3 g4 h1 h2 h3 hg0
    clear hbx hg
    have hsc : w4.cell? ⟨w.heap.size, 0, none⟩ = some (.int .i64 m4) := by rw [cell_of_row _ _ _ _ _ _ h4.box]; rfl
    have hbel : Below w.heap.size w w4 := ((Below.refl _ _).alloc (Nat.le_refl _) _).grown g5 (by simp) (fun j e => by cases e; exact Nat.le_refl _)
    clear h4 g5
    by_cases hm0 : m4 = 0
    · have hd : (m4 == 0) = true := by simp [hm0]
      clear hm0
      go_wp2
      go_ret2
      exact ⟨p4, 1, rfl, by omega, by omega, .inr (.inl rfl), hbel⟩
    · have hd : (m4 == 0) = false := by simp [hm0]
      clear hm0
      by_cases hm12 : m4 = 12
      · have hd2 : (m4 == 12) = true := by simp [hm12]
        clear hm12
        go_wp2
        go_ret2
        exact ⟨p4, 2, rfl, by omega, by omega, .inr (.inr rfl), hbel⟩
      · have hd2 : (m4 == 12) = false := by simp [hm12]
        clear hm12
        go_wp2
        go_ret2
        exact ⟨p4, 0, rfl, by omega, by omega, .inl rfl, hbel⟩
  · have h5 : decide ((50 : Int) ≤ (b : Int) - (a : Int)) = false := by simp; omega
    have h6 : ¬ ((50 : Int) ≤ (b : Int) - (a : Int)) := by omega
    go_enter Try.func62, Try.ntmps62
    go_wp2_with fail
    rw [show (a : Int) + ((b : Int) - a) / 4 = ((a + (b - a) / 4 : Nat) : Int) by omega, show (a : Int) + ((b : Int) - a) / 4 * 2 = ((a + (b - a) / 4 * 2 : Nat) : Int) by omega, show (a : Int) + ((b : Int) - a) / 4 * 3 = ((a + (b - a) / 4 * 3 : Nat) : Int) by omega]
    refine (median_lab g n cap (a + (b - a) / 4) (a + (b - a) / 4 * 2) (a + (b - a) / 4 * 3) w.heap.size zs rest _ 0 hg0 (by omega) (by omega) (by omega) hl (by omega)).mono ?_
    rintro e w4 ⟨p4, m4, rfl, hp4, hm4, h4, g5⟩
    have hbx := h4.box
    have hg := g5
    clear hg0
    clear hbx hg
    have hsc : w4.cell? ⟨w.heap.size, 0, none⟩ = some (.int .i64 m4) := by rw [cell_of_row _ _ _ _ _ _ h4.box]; rfl
    have hbel : Below w.heap.size w w4 := ((Below.refl _ _).alloc (Nat.le_refl _) _).grown g5 (by simp) (fun j e => by cases e; exact Nat.le_refl _)
    clear h4 g5
    by_cases hm0 : m4 = 0
    · have hd : (m4 == 0) = true := by simp [hm0]
      clear hm0
      go_wp2
      go_ret2
      exact ⟨p4, 1, rfl, by omega, by omega, .inr (.inl rfl), hbel⟩
    · have hd : (m4 == 0) = false := by simp [hm0]
      clear hm0
      by_cases hm12 : m4 = 12
      · have hd2 : (m4 == 12) = true := by simp [hm12]
        clear hm12
        go_wp2
        go_ret2
        exact ⟨p4, 2, rfl, by omega, by omega, .inr (.inr rfl), hbel⟩
      · have hd2 : (m4 == 12) = false := by simp [hm12]
        clear hm12
        go_wp2
        go_ret2
        exact ⟨p4, 0, rfl, by omega, by omega, .inl rfl, hbel⟩

end Go.Proofs.Ythclmkmajlinhab
