/- The library's BinarySearch at labels; rows of ints of the call's own; the program's Heights. -/
import Derived.Test.YthclmkmajlinhaaHg1
import Derived.Test.YthclmkmajlinhaaCmp2
import Derived.Test.YthclmkmajlinhaaPlaces
import Derived.Test.YthclmkmajlinhaaReg
namespace Go.Proofs.Ythclmkmajlinhaa
open Go.RowKit

set_option maxRecDepth 100000 in
set_option maxHeartbeats 1000000 in
theorem search_any (a : Option Addr) (cap : Nat) (C : List Nat) (p : Nat) (w : World) (hr : Row w a C) (hs : Hid (∀ i, i + 1 < C.length → at0 C i < at0 C (i + 1))) (hp : p < C.length) (hl : C.length ≤ 4611686018427387904) (x : Nat) (hx : Hid (x = at0 C p)) :
    Calls Try.prog 39 #[.slice a C.length cap, .int .u64 (x : Int)] w fun e w' => e = .returned (.tuple #[.int .i64 (p : Int), .bool true]) ∧ w' = w := by
  go_enter Try.func39, Try.ntmps39
  go_wp2_with fail
  go_loop [7, 8] (fun i j => ∃ I J : Nat, I ≤ p ∧ p ≤ J ∧ J ≤ C.length ∧ i = .int .i64 (I : Int) ∧ j = .int .i64 (J : Int)) (fun i j => (intOf j).toNat - (intOf i).toNat)
  case atStart => exact ⟨0, C.length, by omega, by omega, by omega, rfl, rfl⟩
  case round =>
    obtain ⟨I, J, h1, h2, h3, rfl, rfl⟩ := hrel
    by_cases hij : I < J
    · obtain ⟨h, hh⟩ : ∃ h, h = (I + J) / 2 := ⟨_, rfl⟩
      have hhl : h < C.length := by omega
      have hhI : I ≤ h := by omega
      have hhJ : h < J := by omega
      have e1 : ((I : Int) + (J : Int)) / 2 = (h : Int) := by omega
      have e2 : IntKind.u64.wrap ((I : Int) + (J : Int)) = (I : Int) + (J : Int) := by rw [IntKind.wrap_u64]; omega
      have e3 : IntKind.i64.wrap (h : Int) = (h : Int) := by rw [IntKind.wrap_i64]; omega
      obtain ⟨b, o, rfl, _, hc⟩ := hr.here hhl
      have hck := hc h hhl
      obtain ⟨z, hz⟩ : ∃ z, z = at0 C h := ⟨_, rfl⟩
      rw [← hz] at hck
      have HZ := hidec hz
      have hhi : (h : Int) < (C.length : Int) := by omega
      have hiji : (I : Int) < (J : Int) := by omega
      clear hc hz hh
      by_cases hzx : z < x
      · have hd : decide (z < x) = true := by simpa using hzx
        have hhp : h < p := by
          refine Classical.byContradiction fun hno => ?_
          have h4 := hx.out
          have h5 := HZ.out
          by_cases e : h = p
          · subst e; omega
          · have := rise_lt hs.out (i := p) (j := h) (by omega) hhl
            omega
        go_wp2_with (go_at_call 62; refine (less_lab _ _ _).mono ?_; rintro e w' ⟨rfl, rfl⟩)
        go_round
        case rel => exact ⟨h + 1, J, by omega, by omega, by omega, by go_num, rfl⟩
        case measure => simp [intOf]; omega
      · have hd : decide (z < x) = false := by simpa using hzx
        have hhp : p ≤ h := by
          refine Classical.byContradiction fun hno => ?_
          have h4 := hx.out
          have h5 := HZ.out
          have := rise_lt hs.out (i := h) (j := p) (by omega) hp
          omega
        go_wp2_with (go_at_call 62; refine (less_lab _ _ _).mono ?_; rintro e w' ⟨rfl, rfl⟩)
        go_round
        case rel => exact ⟨I, h, by omega, by omega, by omega, rfl, rfl⟩
        case measure => simp [intOf]; omega
    · have hIp : I = p := by omega
      subst hIp
      have hi1 : (I : Int) < (C.length : Int) := by omega
      obtain ⟨b, o, rfl, _, hc⟩ := hr.here hp
      have hck := hc I hp
      rw [← hx.out] at hck
      have hd : ((x : Int) == (x : Int)) = true := by simp
      clear hc
      go_wp2_with fail
      go_ret2
      exact ⟨rfl, rfl⟩

/-- Block g holds n ints. -/
def IRow (w : World) (g n : Nat) (h : Nat → Nat) : Prop := w.rowIs g 3 n (fun i => .int .i64 ((h i : Nat) : Int))
theorem IRow.cell {w : World} {g n : Nat} {h : Nat → Nat} (H : IRow w g n h) {i : Nat} (hi : i < n) : w.cell? ⟨g, i, none⟩ = some (.int .i64 ((h i : Nat) : Int)) := World.rowIs.cell H hi
theorem IRow.frozen {w : World} {g n : Nat} {h : Nat → Nat} (H : IRow w g n h) (i : Nat) : w.frozen? ⟨g, i, none⟩ = false := World.rowIs.frozen H i
theorem IRow.set {w : World} {g n : Nat} {h : Nat → Nat} (H : IRow w g n h) (k x : Nat) {h' : Nat → Nat} (he : ∀ i, i < n → h' i = if i = k then x else h i) : IRow (w.setCell ⟨g, k, none⟩ (.int .i64 (x : Int))) g n h' := by
  refine (World.rowIs.set H k (.int .i64 (x : Int))).congr (fun i hi => ?_)
  rw [he i hi]
  by_cases e : i = k
  · rw [if_pos e, if_pos e]
  · rw [if_neg e, if_neg e]
theorem IRow.congr {w : World} {g n : Nat} {h h' : Nat → Nat} (H : IRow w g n h) (he : ∀ i, i < n → h i = h' i) : IRow w g n h' := World.rowIs.congr H (fun i hi => by rw [he i hi])
theorem IRow.drewN {w : World} {g n : Nat} {h : Nat → Nat} (H : IRow w g n h) (m : Nat) : IRow (w.drewN m) g n h := by
  induction m with
  | zero => exact H
  | succ m ih => exact ih
theorem IRow.keep {w w' : World} {g n : Nat} {h : Nat → Nat} (H : IRow w g n h) (e : w'.heap[g]? = w.heap[g]?) : IRow w' g n h := by
  obtain ⟨c, h1, h2, h3⟩ := H
  exact ⟨c, e.trans h1, h2, h3⟩
theorem IRow.lt {w : World} {g n : Nat} {h : Nat → Nat} (H : IRow w g n h) : g < w.heap.size := World.rowIs.lt H
theorem IRow.made (w : World) (n : Nat) : IRow (w.alloc (.cells (madeCells #[.int .i64 0] n) 3)) w.heap.size n (fun _ => 0) := World.rowIs_made w _ _ _
theorem at0_map {h : Nat → Nat} {n i : Nat} (hi : i < n) : at0 ((List.range n).map h) i = h i := by
  unfold at0
  rw [List.getD_eq_getElem?_getD, List.getElem?_map, List.getElem?_range hi]; rfl
theorem IRow.row {w : World} {g n : Nat} {h : Nat → Nat} (H : IRow w g n h) : RowI w (some ⟨g, 0, none⟩) ((List.range n).map h) :=
  .inr ⟨g, 0, rfl, H.lt, fun i hi => by
    rw [List.length_map, List.length_range] at hi
    rw [Nat.zero_add, at0_map hi]; exact H.cell hi⟩

end Go.Proofs.Ythclmkmajlinhaa
