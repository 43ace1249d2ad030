/- Texts and bytes laid down, their length first. -/
import Derived.Test.YtfhinodieghklabBy4
import Derived.Lib.AppendStr
import Derived.Lib.ConvBytes
namespace Go.Proofs.Ytfhinodieghklab
open Go.RowKit

/-- A text's bytes as numbers. -/
def strNat (s : ByteArray) : List Nat := s.data.toList.map UInt8.toNat
theorem strNat_len (s : ByteArray) : (strNat s).length = s.size := by simp [strNat]
theorem strCells_nat (s : ByteArray) : Lib.strCells s = (strNat s).map encB := by
  simp [Lib.strCells, strNat, encB]
theorem foldI_nat (n : Nat) : foldI (n : Int) = 2 * n := by unfold foldI; rw [if_neg (by omega)]; omega

set_option maxRecDepth 100000 in
set_option maxHeartbeats 400000 in
theorem putText_any (a : Option Addr) (cap : Nat) (s : ByteArray) (zs : List Nat) (w : World) (hr : RowB w a zs) (hl : zs.length + 10 + s.size ≤ 140737488355328) (hnil : a = none → zs.length = 0 ∧ cap = 0) :
    Calls Try.prog 35 #[.slice a zs.length cap, .string s] w fun e w' => (∃ r, e = .returned r ∧ OwnB w' w.heap.size r (zs ++ shortL (2 * s.size) ++ strNat s)) ∧ Below w.heap.size w w' := by
  obtain ⟨i0, hi, hz0, hz1, hz2⟩ := info_parts infoB
  have h10 : (shortL (2 * s.size)).length ≤ 10 := shortL_ten (by unfold W64; omega)
  have e1 : (10 : Int) + (s.size : Int) = ((10 + s.size : Nat) : Int) := by omega
  have E1 := hide_it e1
  clear e1
  go_enter Try.func35, Try.ntmps35
  go_wp2_with fail
  rw [E1.out]
  refine (withRoom_any a cap (10 + s.size) zs _ hr (by omega) hnil).mono ?_
  rintro e w1 ⟨⟨v1, rfl, hown1⟩, hb1⟩
  clear hr hnil
  go_wp2_with fail
  refine (appendShort_any v1 (s.size : Int) w.heap.size zs w1 (by omega) (by omega) hown1 hb1.size (by omega)).mono ?_
  rintro e w2 ⟨⟨v2, rfl, hown2⟩, hb2⟩
  rw [foldI_nat] at hown2
  have hbw := hb1.trans hb2
  have hlen : (zs ++ shortL (2 * s.size)).length + s.size ≤ 140737488355328 := by rw [List.length_append]; omega
  clear hown1 hb1 hb2
  go_wp2_with (at_builtin; refine Lib.wpList_append_own_string _ rfl _ _ 23 9 rfl w.heap.size 5 i0 Try.underlying23 Try.underlying9 hi hz0 hz1 hz2 _ _ _ rfl hown2 s rfl (by unfold maxLen; omega) hlen hbw.size ?_; intro v4 w4 hown4 hg4 hnil4)
  go_ret
  refine ⟨⟨_, rfl, ?_⟩, hbw.grown hg4 hbw.size (fun j e => hown2.ge e)⟩
  unfold OwnB
  rw [List.length_append, List.map_append, strNat_len, ← strCells_nat]
  exact hown4

set_option maxRecDepth 100000 in
set_option maxHeartbeats 400000 in
theorem putBytes_any (a p : Option Addr) (cap cp : Nat) (zs ys : List Nat) (w : World) (hr : RowB w a zs) (hp : RowB w p ys) (hl : zs.length + 10 + ys.length ≤ 140737488355328) (hnil : a = none → zs.length = 0 ∧ cap = 0) (hnp : p = none → ys.length = 0 ∧ cp = 0) :
    Calls Try.prog 20 #[.slice a zs.length cap, .slice p ys.length cp] w fun e w' => (∃ r, e = .returned r ∧ OwnB w' w.heap.size r (zs ++ shortL (2 * ys.length) ++ ys)) ∧ Below w.heap.size w w' := by
  have h10 : (shortL (2 * ys.length)).length ≤ 10 := shortL_ten (by unfold W64; omega)
  have e1 : (10 : Int) + (ys.length : Int) = ((10 + ys.length : Nat) : Int) := by omega
  have E1 := hide_it e1
  clear e1
  go_enter Try.func20, Try.ntmps20
  go_wp2_with fail
  rw [E1.out]
  refine (withRoom_any a cap (10 + ys.length) zs _ hr (by omega) hnil).mono ?_
  rintro e w1 ⟨⟨v1, rfl, hown1⟩, hb1⟩
  clear hr hnil
  go_wp2_with fail
  refine (appendShort_any v1 (ys.length : Int) w.heap.size zs w1 (by omega) (by omega) hown1 hb1.size (by omega)).mono ?_
  rintro e w2 ⟨⟨v2, rfl, hown2⟩, hb2⟩
  rw [foldI_nat] at hown2
  have hbw := hb1.trans hb2
  have hpb := hp.below hbw
  have hlen : (zs ++ shortL (2 * ys.length)).length + ys.length ≤ 140737488355328 := by rw [List.length_append]; omega
  clear hown1 hb1 hb2 hp
  go_wp2_with (at_builtin; refine wpList_append_row _ rfl _ _ rfl w.heap.size _ _ rfl hown2 p cp ys rfl hpb hnp hlen hbw.size ?_; intro v4 w4 hown4 hg4 hat4)
  go_ret
  exact ⟨⟨_, rfl, hown4⟩, hbw.grown hg4 hbw.size (fun j e => hown2.ge e)⟩

set_option maxRecDepth 100000 in
set_option maxHeartbeats 400000 in
theorem rputBytes_any (a p : Option Addr) (cap cp : Nat) (zs ys : List Nat) (w : World) (hr : RowB w a zs) (hp : RowB w p ys) (hl : zs.length + 10 + ys.length ≤ 140737488355328) (hnil : a = none → zs.length = 0 ∧ cap = 0) (hnp : p = none → ys.length = 0 ∧ cp = 0) :
    Calls Try.prog 34 #[.slice a zs.length cap, .slice p ys.length cp] w fun e w' => (∃ r, e = .returned r ∧ OwnB w' w.heap.size r (zs ++ shortL (2 * ys.length) ++ ys)) ∧ Below w.heap.size w w' := by
  have h10 : (shortL (2 * ys.length)).length ≤ 10 := shortL_ten (by unfold W64; omega)
  go_enter Try.func34, Try.ntmps34
  go_wp2_with fail
  refine (rputInt_any a cap (ys.length : Int) zs _ (by omega) (by omega) hr (by omega) hnil).mono ?_
  rintro e w2 ⟨⟨v2, rfl, hown2⟩, hbw⟩
  rw [foldI_nat] at hown2
  have hpb := hp.below hbw
  have hlen : (zs ++ shortL (2 * ys.length)).length + ys.length ≤ 140737488355328 := by rw [List.length_append]; omega
  clear hr hp hnil
  go_wp2_with (at_builtin; refine wpList_append_row _ rfl _ _ rfl w.heap.size _ _ rfl hown2 p cp ys rfl hpb hnp hlen hbw.size ?_; intro v4 w4 hown4 hg4 hat4)
  go_ret
  exact ⟨⟨_, rfl, hown4⟩, hbw.grown hg4 hbw.size (fun j e => hown2.ge e)⟩

theorem bytes_row (w : World) (s : ByteArray) : RowB (Lib.bytesWorld w 5 s) (some ⟨w.heap.size, 0, none⟩) (strNat s) := by
  refine .inr ⟨w.heap.size, 0, rfl, by rw [Lib.bytesWorld_size]; omega, fun i hi => ?_⟩
  rw [strNat_len] at hi
  rw [Nat.zero_add, Lib.bytesWorld_cell w _ s i hi]
  have h2 : i < s.data.toList.length := by simpa using hi
  unfold at0 strNat
  rw [List.getD_eq_getElem?_getD, List.getD_eq_getElem?_getD, List.getElem?_map, List.getElem?_eq_getElem h2]
  rfl
theorem bytes_below (w : World) (s : ByteArray) : Below w.heap.size w (Lib.bytesWorld w 5 s) :=
  ⟨rfl, rfl, rfl, by rw [Lib.bytesWorld_size]; omega, fun k hk => Lib.bytesWorld_at_old w _ s k hk⟩
end Go.Proofs.Ytfhinodieghklab
