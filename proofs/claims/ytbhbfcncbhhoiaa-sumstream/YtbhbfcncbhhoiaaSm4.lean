/- A stream, walked: Write, Sum, Len, Reset, of one that is there and of one that is not. -/
import Derived.Test.YtbhbfcncbhhoiaaSm3
namespace Go.Proofs.Ytbhbfcncbhhoiaa
open Go.RowKit

/-- Block p holds these cells; at place o lies a stream of n bytes with the sum s. -/
structure Strm (w : World) (p : Nat) (C : Array Value) (t : TypeId) (o n s : Nat) : Prop where
  blk : w.heap[p]? = some (.cells C t (0, 0))
  len : C[o]? = some (.int .i64 (n : Int))
  sum : C[o + 1]? = some (.int .u32 (s : Int))
/-- The cells behind a stream that was changed. -/
def put2 (C : Array Value) (o n s : Nat) : Array Value := (C.setIfInBounds o (.int .i64 (n : Int))).setIfInBounds (o + 1) (.int .u32 (s : Int))

theorem Strm.here {w : World} {p : Nat} {C : Array Value} {t : TypeId} {o n s : Nat} (h : Strm w p C t o n s) : w.cell? ⟨p, o, none⟩ = some (.int .i64 (n : Int)) ∧ w.cell? ⟨p, o + 1, none⟩ = some (.int .u32 (s : Int)) ∧ w.frozen? ⟨p, o, none⟩ = false ∧ w.frozen? ⟨p, o + 1, none⟩ = false :=
  ⟨(cell_of_row _ _ _ _ _ _ h.blk).trans h.len, (cell_of_row _ _ _ _ _ _ h.blk).trans h.sum, frozen_of_row _ _ _ _ _ h.blk, frozen_of_row _ _ _ _ _ h.blk⟩
theorem put2_size (C : Array Value) (o n s : Nat) : (put2 C o n s).size = C.size := by simp [put2]
theorem put2_len {C : Array Value} {o n s : Nat} (h : o < C.size) : (put2 C o n s)[o]? = some (.int .i64 (n : Int)) := by
  unfold put2
  rw [Array.getElem?_setIfInBounds_ne (by omega), Array.getElem?_setIfInBounds_self_of_lt h]
theorem put2_sum {C : Array Value} {o n s : Nat} (h : o + 1 < C.size) : (put2 C o n s)[o + 1]? = some (.int .u32 (s : Int)) := by
  unfold put2
  rw [Array.getElem?_setIfInBounds_self_of_lt (by simpa using h)]
theorem put2_else {C : Array Value} {o n s i : Nat} (h1 : i ≠ o) (h2 : i ≠ o + 1) : (put2 C o n s)[i]? = C[i]? := by
  unfold put2
  rw [Array.getElem?_setIfInBounds_ne (by omega), Array.getElem?_setIfInBounds_ne (by omega)]
theorem Strm.lt {w : World} {p : Nat} {C : Array Value} {t : TypeId} {o n s : Nat} (h : Strm w p C t o n s) : o + 1 < C.size := (Array.getElem?_eq_some_iff.1 h.sum).1
theorem Strm.plt {w : World} {p : Nat} {C : Array Value} {t : TypeId} {o n s : Nat} (h : Strm w p C t o n s) : p < w.heap.size := (Array.getElem?_eq_some_iff.1 h.blk).1

theorem grownBy_below {w w1 w2 : World} {r : Option Nat} (h : w.grownBy w1 r) (hb : Below w1.heap.size w1 w2) : w.grownBy w2 r :=
  h.trans ⟨hb.os, hb.tape, hb.output, hb.size, fun k hk _ => hb.block k hk⟩

/-- Bytes that don't lie in a block. -/
def Off (a : Option Addr) (zs : List Nat) (p : Nat) : Prop := zs.length = 0 ∨ ∀ x, a = some x → x.block ≠ p
theorem RowB.set_off {w : World} {a : Option Addr} {zs : List Nat} {p : Nat} (h : RowB w a zs) (hf : Off a zs p) (i : Nat) (v : Value) : RowB (w.setCell ⟨p, i, none⟩ v) a zs := by
  rcases h with h | ⟨b, o, rfl, hlt, hc⟩
  · exact .inl h
  · rcases hf with h0 | h0
    · exact .inl h0
    · have hne := h0 _ rfl
      refine .inr ⟨b, o, rfl, by simpa using hlt, fun j hj => ?_⟩
      rw [← hc j hj]
      exact World.cell?_of_block (a := ⟨b, o + j, none⟩) (Below.heap_setCell _ _ _ _ hne)

set_option maxRecDepth 100000 in
set_option maxHeartbeats 400000 in
theorem add_any (p o n s : Nat) (C : Array Value) (t : TypeId) (a : Option Addr) (cap L : Nat) (w : World) (h : Strm w p C t o n s) (hl : n + L ≤ 4611686018427387904) :
    Calls Try.prog 25 #[.pointer (some ⟨p, o, none⟩), .slice a L cap] w fun e w' => e = .returned (.tuple #[]) ∧ w' = w.setCell ⟨p, o, none⟩ (.int .i64 ((n + L : Nat) : Int)) := by
  obtain ⟨c1, _, f1, _⟩ := h.here
  obtain ⟨N, hN⟩ : ∃ N, N = n + L := ⟨_, rfl⟩
  have hi : IntKind.i64.wrap ((n : Int) + (L : Int)) = (N : Int) := by
    rw [IntKind.wrap_i64]; omega
  have hi2 : ((n : Int) + (L : Int)) = (N : Int) := by omega
  rw [← hN]
  clear h hN
  go_enter Try.func25, Try.ntmps25
  go_wp2
  go_end0
  exact ⟨rfl, rfl⟩

set_option maxRecDepth 100000 in
set_option maxHeartbeats 400000 in
theorem clear_any (p o n s : Nat) (C : Array Value) (t : TypeId) (w : World) (h : Strm w p C t o n s) :
    Calls Try.prog 26 #[.pointer (some ⟨p, o, none⟩)] w fun e w' => e = .returned (.tuple #[]) ∧ w' = w.setCell ⟨p, o, none⟩ (.int .i64 0) := by
  obtain ⟨c1, _, f1, _⟩ := h.here
  clear h
  go_enter Try.func26, Try.ntmps26
  go_wp2
  go_end0
  exact ⟨rfl, rfl⟩

set_option maxRecDepth 100000 in
set_option maxHeartbeats 400000 in
theorem sum_any (p o n s : Nat) (C : Array Value) (t : TypeId) (w : World) (h : Strm w p C t o n s) :
    Calls Try.prog 17 #[.pointer (some ⟨p, o, none⟩)] w fun e w' => e = .returned (.int .u32 (s : Int)) ∧ w' = w := by
  obtain ⟨_, c2, _, _⟩ := h.here
  clear h
  go_enter Try.func17, Try.ntmps17
  go_wp2
  go_ret
  exact ⟨rfl, rfl⟩
set_option maxRecDepth 100000 in
set_option maxHeartbeats 400000 in
theorem sum_nil (w : World) : Calls Try.prog 17 #[.pointer none] w fun e w' => e = .returned (.int .u32 0) ∧ w' = w := by
  go_enter Try.func17, Try.ntmps17
  go_wp2
  go_ret
  exact ⟨rfl, rfl⟩
set_option maxRecDepth 100000 in
set_option maxHeartbeats 400000 in
theorem len_any (p o n s : Nat) (C : Array Value) (t : TypeId) (w : World) (h : Strm w p C t o n s) :
    Calls Try.prog 18 #[.pointer (some ⟨p, o, none⟩)] w fun e w' => e = .returned (.int .i64 (n : Int)) ∧ w' = w := by
  obtain ⟨c1, _, _, _⟩ := h.here
  clear h
  go_enter Try.func18, Try.ntmps18
  go_wp2
  go_ret
  exact ⟨rfl, rfl⟩
set_option maxRecDepth 100000 in
set_option maxHeartbeats 400000 in
theorem len_nil (w : World) : Calls Try.prog 18 #[.pointer none] w fun e w' => e = .returned (.int .i64 0) ∧ w' = w := by
  go_enter Try.func18, Try.ntmps18
  go_wp2
  go_ret
  exact ⟨rfl, rfl⟩
set_option maxRecDepth 100000 in
set_option maxHeartbeats 400000 in
theorem write_nil (v : Value) (w : World) : Calls Try.prog 16 #[.pointer none, v] w fun e w' => e = .returned (.tuple #[]) ∧ w' = w := by
  go_enter Try.func16, Try.ntmps16
  go_wp2
  exact bodyPost_ret (results_none rfl _ _ _) rfl ⟨rfl, rfl⟩

set_option maxRecDepth 100000 in
set_option maxHeartbeats 800000 in
theorem write_any (p o n s : Nat) (C : Array Value) (t : TypeId) (a : Option Addr) (cap : Nat) (zs : List Nat) (w : World) (h : Strm w p C t o n s) (hs : W32 s) (hr : RowB w a zs) (h8 : All8 zs) (hoff : Off a zs p) (hl : n + zs.length ≤ 4611686018427387904) (hm : zs.length ≤ maxLen) :
    Calls Try.prog 16 #[.pointer (some ⟨p, o, none⟩), .slice a zs.length cap] w fun e w' => e = .returned (.tuple #[]) ∧ Strm w' p (put2 C o (n + zs.length) (moreN s zs)) t o (n + zs.length) (moreN s zs) ∧ w.grownBy w' (some p) := by
  have hadd := add_any p o n s C t a cap zs.length w h hl
  have hr1 := hr.set_off hoff o (.int .i64 ((n + zs.length : Nat) : Int))
  have hblk := heap_setCell_same w p o _ _ (.int .i64 ((n + zs.length : Nat) : Int)) h.blk
  have hg1 : w.grownBy (w.setCell ⟨p, o, none⟩ (.int .i64 ((n + zs.length : Nat) : Int))) (some p) := grown_set (World.grownBy.refl _ _) _ _
  have hlt := h.lt
  have hsum := h.sum
  clear hr h
  obtain ⟨W1, hW1⟩ : ∃ W1, W1 = w.setCell ⟨p, o, none⟩ (.int .i64 ((n + zs.length : Nat) : Int)) := ⟨_, rfl⟩
  rw [← hW1] at hadd hr1 hblk hg1
  clear hW1
  have hc2 : W1.cell? ⟨p, o + 1, none⟩ = some (.int .u32 (s : Int)) := by
    rw [cell_of_row _ _ _ _ _ _ hblk, Array.getElem?_setIfInBounds_ne (by omega)]; exact hsum
  have hmo := more_any s hs a cap zs W1 hr1 h8 hm
  have hplt : p < W1.heap.size := (Array.getElem?_eq_some_iff.1 hblk).1
  obtain ⟨S, hS⟩ : ∃ S, S = moreN s zs := ⟨_, rfl⟩
  obtain ⟨N, hN⟩ : ∃ N, N = n + zs.length := ⟨_, rfl⟩
  rw [← hS] at hmo
  rw [← hN] at hblk
  rw [← hS, ← hN]
  clear hsum hS hN hr1
  go_enter Try.func16, Try.ntmps16
  go_wp2_with fail
  refine hadd.mono ?_
  rintro e w1 ⟨rfl, hq⟩
  have hq2 := hq.symm
  subst hq2
  clear hq hadd
  go_wp2_with fail
  refine hmo.mono ?_
  rintro e w2 ⟨rfl, hb2⟩
  have hblk2 : w2.heap[p]? = some (.cells (C.setIfInBounds o (.int .i64 (N : Int))) t (0, 0)) := (hb2.block p hplt).trans hblk
  have hf2 := frozen_of_row w2 p (o + 1) _ _ hblk2
  have hblk3 := heap_setCell_same w2 p (o + 1) _ _ (.int .u32 (S : Int)) hblk2
  have hg2 : w.grownBy (w2.setCell ⟨p, o + 1, none⟩ (.int .u32 (S : Int))) (some p) := grown_set (grownBy_below hg1 hb2) _ _
  have hc3 : w2.cell? ⟨p, o + 1, none⟩ = some (.int .u32 (s : Int)) := by
    rw [hb2.cell (p := ⟨p, o + 1, none⟩) hplt]; exact hc2
  clear hmo hblk2
  go_wp2_with fail
  go_end0
  exact ⟨rfl, ⟨hblk3, put2_len (by omega), put2_sum hlt⟩, hg2⟩

set_option maxRecDepth 100000 in
set_option maxHeartbeats 400000 in
theorem reset_nil (w : World) : Calls Try.prog 19 #[.pointer none] w fun e w' => e = .returned (.tuple #[]) ∧ w' = w := by
  go_enter Try.func19, Try.ntmps19
  go_wp2
  exact bodyPost_ret (results_none rfl _ _ _) rfl ⟨rfl, rfl⟩

set_option maxRecDepth 100000 in
set_option maxHeartbeats 800000 in
theorem reset_any (p o n s : Nat) (C : Array Value) (t : TypeId) (w : World) (h : Strm w p C t o n s) :
    Calls Try.prog 19 #[.pointer (some ⟨p, o, none⟩)] w fun e w' => e = .returned (.tuple #[]) ∧ Strm w' p (put2 C o 0 0) t o 0 0 ∧ w.grownBy w' (some p) := by
  have hadd := clear_any p o n s C t w h
  have hblk := heap_setCell_same w p o _ _ (.int .i64 0) h.blk
  have hg1 : w.grownBy (w.setCell ⟨p, o, none⟩ (.int .i64 0)) (some p) := grown_set (World.grownBy.refl _ _) _ _
  have hlt := h.lt
  have hsum := h.sum
  clear h
  obtain ⟨W1, hW1⟩ : ∃ W1, W1 = w.setCell ⟨p, o, none⟩ (.int .i64 0) := ⟨_, rfl⟩
  rw [← hW1] at hadd hblk hg1
  clear hW1
  have hc2 : W1.cell? ⟨p, o + 1, none⟩ = some (.int .u32 (s : Int)) := by
    rw [cell_of_row _ _ _ _ _ _ hblk, Array.getElem?_setIfInBounds_ne (by omega)]; exact hsum
  have hf2 := frozen_of_row W1 p (o + 1) _ _ hblk
  have hblk3 := heap_setCell_same W1 p (o + 1) _ _ (.int .u32 0) hblk
  have hg2 : w.grownBy (W1.setCell ⟨p, o + 1, none⟩ (.int .u32 0)) (some p) := grown_set hg1 _ _
  clear hsum hblk
  go_enter Try.func19, Try.ntmps19
  go_wp2_with fail
  refine hadd.mono ?_
  rintro e w1 ⟨rfl, hq⟩
  have hq2 := hq.symm
  subst hq2
  clear hq hadd
  go_wp2_with fail
  go_end0
  exact ⟨rfl, ⟨hblk3, put2_len (by omega), put2_sum hlt⟩, hg2⟩

end Go.Proofs.Ytbhbfcncbhhoiaa
