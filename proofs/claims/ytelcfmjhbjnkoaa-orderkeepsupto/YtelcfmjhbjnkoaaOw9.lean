/- Bytes, truth values, words and numbers taken off a text by the program's reader. -/
import Derived.Test.YtelcfmjhbjnkoaaOw8
namespace Go.Proofs.Ytelcfmjhbjnkoaa
open Go.RowKit

attribute [local go_sem] st_float st_complex

/-- The reader in block g: the text that is left, and whether something was wrong. -/
def RdO (w : World) (g : Nat) (s : ByteArray) (b : Bool) : Prop := w.heap[g]? = some (.cells #[.string s, .bool b] 61 (0, 0))
theorem RdO.lt {w : World} {g : Nat} {s : ByteArray} {b : Bool} (h : RdO w g s b) : g < w.heap.size := (Array.getElem?_eq_some_iff.1 h).1
theorem RdO.cells {w : World} {g : Nat} {s : ByteArray} {b : Bool} (h : RdO w g s b) : w.cell? ⟨g, 0, none⟩ = some (.string s) ∧ w.cell? ⟨g, 1, none⟩ = some (.bool b) ∧ w.frozen? ⟨g, 0, none⟩ = false ∧ w.frozen? ⟨g, 1, none⟩ = false :=
  ⟨by rw [cell_of_row _ _ _ _ _ _ h]; rfl, by rw [cell_of_row _ _ _ _ _ _ h]; rfl, frozen_of_row w g 0 _ _ h, frozen_of_row w g 1 _ _ h⟩
theorem RdO.set0 {w : World} {g : Nat} {s : ByteArray} {b : Bool} (h : RdO w g s b) (s' : ByteArray) : RdO (w.setCell ⟨g, 0, none⟩ (.string s')) g s' b := by
  unfold RdO; rw [heap_setCell_same w g 0 _ _ _ h]; rfl
theorem RdO.set1 {w : World} {g : Nat} {s : ByteArray} {b : Bool} (h : RdO w g s b) (b' : Bool) : RdO (w.setCell ⟨g, 1, none⟩ (.bool b')) g s b' := by
  unfold RdO; rw [heap_setCell_same w g 1 _ _ _ h]; rfl
theorem RdO.below {w w' : World} {B g : Nat} {s : ByteArray} {b : Bool} (h : RdO w g s b) (hb : Below B w w') (hg : g < B) : RdO w' g s b := by
  unfold RdO; rw [hb.block g hg]; exact h
theorem grown_refl (w : World) (a : Option Nat) : w.grownBy w a := ⟨rfl, rfl, rfl, Nat.le_refl _, fun _ _ _ => rfl⟩
theorem grown_cell {w w' : World} {g : Nat} (h : w.grownBy w' (some g)) (i : Nat) (v : Value) : w.grownBy (w'.setCell ⟨g, i, none⟩ v) (some g) := grown_setCell h i v
theorem grown_then {w w1 w2 : World} {g : Nat} (h1 : w.grownBy w1 (some g)) (h2 : w1.grownBy w2 (some g)) : w.grownBy w2 (some g) := grown_of h1 h2 (.inl rfl)

theorem strNat_extract (s : ByteArray) (a b : Nat) : strNat (s.extract a b) = ((strNat s).drop a).take (b - a) := by
  unfold strNat
  rw [Lib.extract_data, List.map_take, List.map_drop]
theorem extract_size (s : ByteArray) (a b : Nat) (h : a ≤ b) (hb : b ≤ s.size) : (s.extract a b).size = b - a := by
  rw [← strNat_len, strNat_extract]
  simp [strNat_len]; omega

theorem getB {s : ByteArray} {k : Nat} (h : k < s.size) : (s[k]'h).toNat = at0 (strNat s) k := by
  have h2 : k < (strNat s).length := by rw [strNat_len]; exact h
  rw [← at0_get h2]
  simp [strNat]
  rfl

set_option maxRecDepth 100000 in
set_option maxHeartbeats 400000 in
theorem next_has (g n : Nat) (s : ByteArray) (b : Bool) (w : World) (hr : RdO w g s b) (hn : n ≤ s.size) (_hl : s.size ≤ 140737488355328) :
    Calls Try.prog 52 #[.pointer (some ⟨g, 0, none⟩), .int .i64 (n : Int)] w fun e w' => e = .returned (.string (s.extract 0 n)) ∧ w' = w.setCell ⟨g, 0, none⟩ (.string (s.extract n s.size)) := by
  obtain ⟨c0, c1, f0, f1⟩ := hr.cells
  have hd : decide ((s.size : Int) < (n : Int)) = false := by simp; omega
  go_enter Try.func52, Try.ntmps52
  go_wp2_with fail
  go_ret
  exact ⟨rfl, rfl⟩

set_option maxRecDepth 100000 in
set_option maxHeartbeats 400000 in
theorem next_not (g n : Nat) (s : ByteArray) (b : Bool) (w : World) (hr : RdO w g s b) (hn : s.size < n) (_hl : s.size ≤ 140737488355328) :
    Calls Try.prog 52 #[.pointer (some ⟨g, 0, none⟩), .int .i64 (n : Int)] w fun e w' => e = .returned (.string ByteArray.empty) ∧ w' = w.setCell ⟨g, 1, none⟩ (.bool true) := by
  obtain ⟨c0, c1, f0, f1⟩ := hr.cells
  have hd : decide ((s.size : Int) < (n : Int)) = true := by simp; omega
  go_enter Try.func52, Try.ntmps52
  go_wp2_with fail
  go_ret
  exact ⟨rfl, rfl⟩

/-- What comes of a taking: what was taken and the reader behind it; or the reader knows that something was wrong. -/
def Rdg {A : Type} (take : Option (A × List Nat)) (val : A → Value) (ok : Value → Prop) (g : Nat) (b : Bool) (w : World) (e : Ending) (w' : World) : Prop :=
  w.grownBy w' (some g) ∧
  match take with
  | some (x, t) => e = .returned (val x) ∧ ∃ s', RdO w' g s' b ∧ strNat s' = t ∧ s'.size ≤ 140737488351232
  | none => ∃ v s', e = .returned v ∧ ok v ∧ RdO w' g s' true ∧ s'.size ≤ 140737488351232

/-- A byte off a row. -/
def takeO : List Nat → Option (Nat × List Nat)
  | [] => none
  | z :: t => some (z, t)

set_option maxRecDepth 100000 in
set_option maxHeartbeats 400000 in
theorem octet_nil (g : Nat) (s : ByteArray) (b : Bool) (w : World) (hr : RdO w g s b) (h0 : s.size = 0) :
    Calls Try.prog 38 #[.pointer (some ⟨g, 0, none⟩)] w fun e w' => e = .returned (.int .u8 0) ∧ w' = w.setCell ⟨g, 1, none⟩ (.bool true) := by
  have hc := next_not g 1 s b w hr (by omega) (by omega)
  clear hr
  go_enter Try.func38, Try.ntmps38
  go_wp2_with fail
  refine hc.mono ?_
  rintro e w1 ⟨rfl, rfl⟩
  go_wp2_with fail
  go_ret
  exact ⟨rfl, rfl⟩

set_option maxRecDepth 100000 in
set_option maxHeartbeats 400000 in
theorem octet_cons (g z : Nat) (t : List Nat) (s : ByteArray) (b : Bool) (w : World) (hr : RdO w g s b) (hl : s.size ≤ 140737488355328) (hs : strNat s = z :: t) :
    Calls Try.prog 38 #[.pointer (some ⟨g, 0, none⟩)] w fun e w' => ∃ q, strNat q = t ∧ e = .returned (.int .u8 (z : Int)) ∧ w' = w.setCell ⟨g, 0, none⟩ (.string q) := by
  have hlen : (strNat s).length = s.size := strNat_len s
  have h0 : s.size = t.length + 1 := by rw [← hlen, hs]; simp
  have hc := next_has g 1 s b w hr (by omega) hl
  have hz : strNat (s.extract 0 1) = [z] := by rw [strNat_extract, hs]; rfl
  have ht : strNat (s.extract 1 s.size) = t := by
    rw [strNat_extract, hs, List.drop_succ_cons, List.drop_zero, List.take_of_length_le (by omega)]
  have hsz : (s.extract 0 1).size = 1 := extract_size s 0 1 (by omega) (by omega)
  have hp0 : ∀ h : 0 < (s.extract 0 1).size, ((s.extract 0 1)[0]'h).toNat = z := fun h => by rw [getB h, hz]; rfl
  have HP := hide_it hp0
  clear hp0
  have hne : (s.extract 0 1).toList ≠ [] := fun e => by rw [nil_toList] at e; omega
  have hnb : ((s.extract 0 1).toList == []) = false := by simpa using hne
  have HT := hide_it ht
  clear hr hs ht hz hlen h0
  generalize s.extract 0 1 = p at *
  generalize hq : s.extract 1 s.size = q at *
  go_enter Try.func38, Try.ntmps38
  go_wp2_with fail
  refine hc.mono ?_
  rintro e w1 ⟨rfl, rfl⟩
  go_wp2_with fail
  go_ret
  exact ⟨q, HT.out, congrArg (fun n : Nat => Ending.returned (.int .u8 (n : Int))) (HP.out _), rfl⟩

theorem octet_any (g : Nat) (s : ByteArray) (b : Bool) (w : World) (hr : RdO w g s b) (hl : s.size ≤ 140737488351232) :
    Calls Try.prog 38 #[.pointer (some ⟨g, 0, none⟩)] w fun e w' => Rdg (takeO (strNat s)) (fun z => .int .u8 ((z : Nat) : Int)) (fun v => v = .int .u8 0) g b w e w' := by
  cases hs : strNat s with
  | nil =>
    refine (octet_nil g s b w hr (by rw [← strNat_len, hs]; rfl)).mono ?_
    rintro e w' ⟨rfl, rfl⟩
    exact ⟨grown_cell (grown_refl _ _) _ _, _, s, rfl, rfl, hr.set1 true, hl⟩
  | cons z t =>
    refine (octet_cons g z t s b w hr (by omega) hs).mono ?_
    rintro e w' ⟨q, hq, rfl, rfl⟩
    exact ⟨grown_cell (grown_refl _ _) _ _, rfl, q, hr.set0 q, hq, by rw [← strNat_len, hq]; rw [← strNat_len, hs, List.length_cons] at hl; omega⟩

/-- A truth value off a row. -/
def takeTr (l : List Nat) : Option (Bool × List Nat) :=
  match l with
  | [] => none
  | z :: m => if z ≤ 1 then some (decide (z = 1), m) else none

set_option maxRecDepth 100000 in
set_option maxHeartbeats 400000 in
theorem truth_any (g : Nat) (s : ByteArray) (w : World) (hr : RdO w g s false) (hl : s.size ≤ 140737488351232) :
    Calls Try.prog 39 #[.pointer (some ⟨g, 0, none⟩)] w fun e w' => Rdg (takeTr (strNat s)) (fun z => .bool z) (fun v => ∃ z, v = .bool z) g false w e w' := by
  have ho := octet_any g s false w hr hl
  have h8 := strNat_all s
  cases hs : strNat s with
  | nil =>
    rw [hs] at ho
    clear hr
    go_enter Try.func39, Try.ntmps39
    go_wp2_with fail
    refine ho.mono ?_
    rintro e w1 ⟨hg, v, s', rfl, rfl, hr1, hsl⟩
    obtain ⟨c0, c1, f0, f1⟩ := hr1.cells
    have HR := hide_it hr1
    clear hr1
    go_wp2_with fail
    go_ret
    exact ⟨grown_cell hg _ _, _, s', rfl, ⟨_, rfl⟩, HR.out.set1 true, hsl⟩
  | cons z t =>
    rw [hs] at ho h8
    have hz8 : z < 256 := h8 z List.mem_cons_self
    clear hr h8
    unfold takeTr
    simp only
    by_cases hz : z ≤ 1
    · rw [if_pos hz]
      have hd : decide ((1 : Int) < (z : Int)) = false := by simp; omega
      have hb : ((z : Int) == 1) = decide (z = 1) := by
        by_cases e : z = 1
        · simp [e]
        · have : ¬ (z : Int) = 1 := by omega
          simp [e, this]
      go_enter Try.func39, Try.ntmps39
      go_wp2_with fail
      refine ho.mono ?_
      rintro e w1 ⟨hg, rfl, s', hr1, ht, hsl⟩
      obtain ⟨c0, c1, f0, f1⟩ := hr1.cells
      have HR := hide_it hr1
      clear hr1
      go_wp2_with fail
      go_ret
      exact ⟨grown_cell hg _ _, rfl, s', HR.out.set1 false, ht, hsl⟩
    · rw [if_neg hz]
      have hd : decide ((1 : Int) < (z : Int)) = true := by simp; omega
      go_enter Try.func39, Try.ntmps39
      go_wp2_with fail
      refine ho.mono ?_
      rintro e w1 ⟨hg, rfl, s', hr1, ht, hsl⟩
      obtain ⟨c0, c1, f0, f1⟩ := hr1.cells
      have HR := hide_it hr1
      clear hr1
      go_wp2_with fail
      go_ret
      exact ⟨grown_cell hg _ _, _, s', rfl, ⟨_, rfl⟩, HR.out.set1 true, hsl⟩

end Go.Proofs.Ytelcfmjhbjnkoaa
