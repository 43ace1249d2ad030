/- The disk's calls that only tell: part, Areas, Done, Bounds, Read. -/
import Derived.Test.YtdodnegdpdhbiaaDk1
namespace Go.Proofs.Ytdodnegdpdhbiaa
open Go.RowKit

section
variable {w : World} {F : Nat → Prop} {p : Nat} {am : Bool} {n : Nat} {s : Nat → Pt} {g : Nat} {C : Array Value} {q : Nat → Nat} {v : Nat → Value}

set_option maxRecDepth 100000 in
set_option maxHeartbeats 400000 in
theorem part_nil (I : Int) (w : World) : Calls Try.prog 67 #[.pointer none, .int .i64 I] w fun e w' => e = .returned (.tuple #[.pointer none, .int .i64 1]) ∧ w' = w := by
  go_enter Try.func67, Try.ntmps67
  go_wp2
  go_ret2
  exact ⟨rfl, rfl⟩

set_option maxRecDepth 100000 in
set_option maxHeartbeats 400000 in
theorem part_no (h : Dk w F p am n s g C q v) (I : Int) (hI : I < 0 ∨ (n : Int) ≤ I) : Calls Try.prog 67 #[.pointer (some ⟨p, 0, none⟩), .int .i64 I] w fun e w' => e = .returned (.tuple #[.pointer none, .int .i64 81]) ∧ w' = w := by
  obtain ⟨c0, c1, _⟩ := h.cells
  by_cases h1 : I < 0
  · go_enter Try.func67, Try.ntmps67
    go_wp2
    go_ret2
    exact ⟨rfl, rfl⟩
  · have h2 : ¬ I < (n : Int) := by omega
    clear hI
    go_enter Try.func67, Try.ntmps67
    go_wp2
    go_ret2
    exact ⟨rfl, rfl⟩

set_option maxRecDepth 100000 in
set_option maxHeartbeats 400000 in
theorem part_ok (h : Dk w F p am n s g C q v) (i : Nat) (hi : i < n) : Calls Try.prog 67 #[.pointer (some ⟨p, 0, none⟩), .int .i64 (i : Int)] w fun e w' => e = .returned (.tuple #[.pointer (some ⟨g, i * 5, none⟩), .int .i64 0]) ∧ w' = w := by
  obtain ⟨c0, c1, _⟩ := h.cells
  go_enter Try.func67, Try.ntmps67
  go_wp2
  go_ret2
  exact ⟨rfl, rfl⟩

set_option maxRecDepth 100000 in
set_option maxHeartbeats 400000 in
theorem done_ok (h : Dsk w F p am n s) (i : Nat) (hi : i < n) : Calls Try.prog 47 #[.pointer (some ⟨p, 0, none⟩), .int .i64 (i : Int)] w fun e w' => e = .returned (.int .i64 ((s i).c : Int)) ∧ w' = w := by
  obtain ⟨g, C, q, v, h⟩ := h
  have hp := part_ok h i hi
  obtain ⟨c0, c1, c2, c3, c4, _⟩ := h.at_ hi
  go_enter Try.func47, Try.ntmps47
  go_wp2_with fail
  refine hp.mono ?_
  rintro e w1 ⟨rfl, hw⟩
  have hw2 := hw.symm
  subst hw2
  clear hw hp
  go_wp2_with fail
  go_ret
  exact ⟨rfl, rfl⟩

set_option maxRecDepth 100000 in
set_option maxHeartbeats 400000 in
theorem bounds_ok (h : Dsk w F p am n s) (i : Nat) (hi : i < n) : Calls Try.prog 49 #[.pointer (some ⟨p, 0, none⟩), .int .i64 (i : Int)] w fun e w' =>
    e = .returned (.tuple #[.int .i64 ((s i).B : Int), .int .i64 (((s i).B + (s i).k : Nat) : Int), .int .i64 (((s i).B + (s i).bs.length : Nat) : Int), .int .i64 0]) ∧ Below w.heap.size w w' := by
  obtain ⟨g, C, q, v, h⟩ := h
  have hp := part_ok h i hi
  have hb := bounds_any w (h.ar i hi) (h.le i hi)
  obtain ⟨c0, c1, c2, c3, c4, _⟩ := h.at_ hi
  go_enter Try.func49, Try.ntmps49
  go_wp2_with fail
  refine hp.mono ?_
  rintro e w1 ⟨rfl, hw⟩
  have hw2 := hw.symm
  subst hw2
  clear hw hp
  go_wp2_with fail
  refine hb.mono ?_
  rintro e w2 ⟨rfl, hb2⟩
  clear hb
  go_wp2_with fail
  exact bodyPost_ret (v := .tuple #[.int .i64 ((s i).B : Int), .int .i64 (((s i).B + (s i).k : Nat) : Int), .int .i64 (((s i).B + (s i).bs.length : Nat) : Int), .int .i64 0]) (by simp [results, Try.results49, go_sem]) rfl ⟨rfl, hb2⟩

set_option maxRecDepth 100000 in
set_option maxHeartbeats 400000 in
theorem readD_no (h : Dsk w F p am n s) (i : Nat) (hi : i < n) (E N : Int) (hEb : E ≤ 9223372036854775807) (hE : N < 0 ∨ E < ((s i).B : Int) ∨ ((s i).B : Int) + ((s i).bs.length : Int) < E + N) :
    Calls Try.prog 32 #[.pointer (some ⟨p, 0, none⟩), .int .i64 (i : Int), .int .i64 E, .int .i64 N] w fun e w' => e = .returned (.tuple #[.slice none 0 0, .int .i64 70]) ∧ Below w.heap.size w w' := by
  obtain ⟨g, C, q, v, h⟩ := h
  have hp := part_ok h i hi
  have hb := read_no w (h.ar i hi) E N hEb hE
  obtain ⟨c0, c1, c2, c3, c4, _⟩ := h.at_ hi
  clear hE hEb
  go_enter Try.func32, Try.ntmps32
  go_wp2_with fail
  refine hp.mono ?_
  rintro e w1 ⟨rfl, hw⟩
  have hw2 := hw.symm
  subst hw2
  clear hw hp
  go_wp2_with fail
  refine hb.mono ?_
  rintro e w2 ⟨rfl, hb2⟩
  clear hb
  go_wp2_with fail
  go_ret2
  exact ⟨rfl, hb2⟩

set_option maxRecDepth 100000 in
set_option maxHeartbeats 400000 in
theorem readD_ok (h : Dsk w F p am n s) (i : Nat) (hi : i < n) (j m : Nat) (hjm : j + m ≤ (s i).bs.length) (E : Int) (hE : E = ((s i).B : Int) + (j : Int)) :
    Calls Try.prog 32 #[.pointer (some ⟨p, 0, none⟩), .int .i64 (i : Int), .int .i64 E, .int .i64 (m : Int)] w fun e w' => Tells w (((s i).bs.take (j + m)).drop j) 0 e w' := by
  obtain ⟨g, C, q, v, h⟩ := h
  have hp := part_ok h i hi
  have hb := read_ok w (h.ar i hi) j m hjm E hE
  obtain ⟨Z, hZ⟩ : ∃ Z, Z = ((s i).bs.take (j + m)).drop j := ⟨_, rfl⟩
  rw [← hZ] at hb ⊢
  clear hZ
  obtain ⟨c0, c1, c2, c3, c4, _⟩ := h.at_ hi
  clear hE hjm
  go_enter Try.func32, Try.ntmps32
  go_wp2_with fail
  refine hp.mono ?_
  rintro e w1 ⟨rfl, hw⟩
  have hw2 := hw.symm
  subst hw2
  clear hw hp
  go_wp2_with fail
  refine hb.mono ?_
  rintro e w2 ⟨⟨r, rfl, hr⟩, hb2⟩
  obtain ⟨a9, c9, e9, _⟩ := hr.row
  subst e9
  clear hb
  go_wp2_with fail
  go_ret2
  exact ⟨⟨_, rfl, hr⟩, hb2⟩

/-! ### there is no such area -/
set_option maxRecDepth 100000 in
set_option maxHeartbeats 400000 in
theorem done_no (pv : Value) (E0 : Int) (hE0 : E0 ≠ 0) (I : Int) (w : World) (hp : Calls Try.prog 67 #[pv, .int .i64 I] w fun e w' => e = .returned (.tuple #[.pointer none, .int .i64 E0]) ∧ w' = w) :
    Calls Try.prog 47 #[pv, .int .i64 I] w fun e w' => e = .returned (.int .i64 0) ∧ w' = w := by
  go_enter Try.func47, Try.ntmps47
  go_wp2_with fail
  refine hp.mono ?_
  rintro e w1 ⟨rfl, hw⟩
  have hw2 := hw.symm
  subst hw2
  clear hw hp
  go_wp2_with fail
  go_ret
  exact ⟨rfl, rfl⟩

set_option maxRecDepth 100000 in
set_option maxHeartbeats 400000 in
theorem bounds_no (pv : Value) (E0 : Int) (hE0 : E0 ≠ 0) (I : Int) (w : World) (hp : Calls Try.prog 67 #[pv, .int .i64 I] w fun e w' => e = .returned (.tuple #[.pointer none, .int .i64 E0]) ∧ w' = w) :
    Calls Try.prog 49 #[pv, .int .i64 I] w fun e w' => e = .returned (.tuple #[.int .i64 0, .int .i64 0, .int .i64 0, .int .i64 E0]) ∧ w' = w := by
  go_enter Try.func49, Try.ntmps49
  go_wp2_with fail
  refine hp.mono ?_
  rintro e w1 ⟨rfl, hw⟩
  have hw2 := hw.symm
  subst hw2
  clear hw hp
  go_wp2_with fail
  exact bodyPost_ret (v := .tuple #[.int .i64 0, .int .i64 0, .int .i64 0, .int .i64 E0]) (by simp [results, Try.results49, go_sem]) rfl ⟨rfl, rfl⟩

set_option maxRecDepth 100000 in
set_option maxHeartbeats 400000 in
theorem readD_none (pv : Value) (E0 : Int) (hE0 : E0 ≠ 0) (I E N : Int) (w : World) (hp : Calls Try.prog 67 #[pv, .int .i64 I] w fun e w' => e = .returned (.tuple #[.pointer none, .int .i64 E0]) ∧ w' = w) :
    Calls Try.prog 32 #[pv, .int .i64 I, .int .i64 E, .int .i64 N] w fun e w' => e = .returned (.tuple #[.slice none 0 0, .int .i64 E0]) ∧ w' = w := by
  go_enter Try.func32, Try.ntmps32
  go_wp2_with fail
  refine hp.mono ?_
  rintro e w1 ⟨rfl, hw⟩
  have hw2 := hw.symm
  subst hw2
  clear hw hp
  go_wp2_with fail
  go_ret2
  exact ⟨rfl, rfl⟩
end

set_option maxRecDepth 100000 in
set_option maxHeartbeats 400000 in
theorem areas_ok {w : World} {F : Nat → Prop} {p : Nat} {am : Bool} {n : Nat} {s : Nat → Pt} (h : Dsk w F p am n s) : Calls Try.prog 51 #[.pointer (some ⟨p, 0, none⟩)] w fun e w' => e = .returned (.int .i64 (n : Int)) ∧ w' = w := by
  obtain ⟨g, C, q, v, h⟩ := h
  obtain ⟨c0, c1, _⟩ := h.cells
  go_enter Try.func51, Try.ntmps51
  go_wp2_with fail
  go_ret
  exact ⟨rfl, rfl⟩
set_option maxRecDepth 100000 in
set_option maxHeartbeats 400000 in
theorem areas_nil (w : World) : Calls Try.prog 51 #[.pointer none] w fun e w' => e = .returned (.int .i64 0) ∧ w' = w := by
  go_enter Try.func51, Try.ntmps51
  go_wp2_with fail
  go_ret
  exact ⟨rfl, rfl⟩

end Go.Proofs.Ytdodnegdpdhbiaa
