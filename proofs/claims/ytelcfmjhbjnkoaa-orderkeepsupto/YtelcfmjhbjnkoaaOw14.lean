/- The least text above all that begin with one: the program's Next. -/
import Derived.Test.YtelcfmjhbjnkoaaOw13
namespace Go.Proofs.Ytelcfmjhbjnkoaa
open Go.RowKit

/-- The row behind all that begin with one, its last byte first. -/
def nextR : List Nat → Option (List Nat)
  | [] => none
  | z :: r => if z = 255 then nextR r else some ((z + 1) :: r)
def nextRes (l : List Nat) : Option (List Nat) := (nextR l.reverse).map List.reverse
theorem nextRes_nil : nextRes [] = none := rfl
theorem nextRes_snoc (l : List Nat) (z : Nat) : nextRes (l ++ [z]) = if z = 255 then nextRes l else some (l ++ [z + 1]) := by
  unfold nextRes
  rw [List.reverse_append]
  simp only [List.reverse_singleton, List.singleton_append, nextR]
  split <;> simp

theorem bytes_thaw (w : World) (s : ByteArray) {j : Nat} (hj : j < s.size) : (Lib.bytesWorld w 5 s).frozen? ⟨w.heap.size, j, none⟩ = false := by
  have hc : s.size ≤ (Lib.bytesCells w 5 s).size := by simp [Lib.bytesCells]
  simp [World.frozen?, Lib.bytesWorld_at_new]
  omega

set_option maxRecDepth 100000 in
set_option maxHeartbeats 1000000 in
theorem next_any (s : ByteArray) (w : World) (hl : s.size ≤ 140737488351232) :
    Calls Try.prog 15 #[.string s] w fun e w' => e = .returned (.tuple #[.string (strOf ((nextRes (strNat s)).getD [])), .bool (nextRes (strNat s)).isSome]) ∧ Below w.heap.size w w' := by
  have hsl : (strNat s).length = s.size := strNat_len s
  have h8 := strNat_all s
  obtain ⟨res, hres⟩ : ∃ z, z = nextRes (strNat s) := ⟨_, rfl⟩
  rw [← hres]
  have HRES := hide_it hres
  clear hres
  go_enter Try.func15, Try.ntmps15
  go_wp2_with fail
  go_loop [4] (fun i => ∃ k : Nat, k ≤ s.size ∧ i = .int .i64 (k : Int) ∧ Hid (res = nextRes ((strNat s).take k))) (fun i => (intOf i).toNat)
  case atStart => exact ⟨s.size, Nat.le_refl _, rfl, by unfold Hid; rw [HRES.out, List.take_of_length_le (by omega)]⟩
  case round =>
    obtain ⟨k, hk, rfl, hto⟩ := hrel
    cases k with
    | zero =>
      have hn : res = none := by rw [hto.out]; rfl
      go_wp2_with fail
      go_ret2
      exact ⟨rfl, Below.refl _ _⟩
    | succ k =>
      have hks : k < s.size := by omega
      have hkt := take_snoc (bs := strNat s) (k := k) (by omega)
      have hix := str_at hks
      have hz8 := h8.at k
      have hto2 := hto.out
      rw [hkt, nextRes_snoc] at hto2
      have hpos : (0 : Int) < (k : Int) + 1 := by omega
      by_cases hz : at0 (strNat s) k = 255
      · rw [if_pos hz] at hto2
        rw [hz] at hix
        have HT := hide_it hto2
        clear hto2 hto hkt hz8
        go_wp2_with fail
        go_round
        case rel => exact ⟨k, by omega, by go_num, HT⟩
        case measure => simp [intOf]
      · rw [if_neg hz] at hto2
        obtain ⟨z, hzz⟩ : ∃ z, z = at0 (strNat s) k := ⟨_, rfl⟩
        rw [← hzz] at hz hix hz8 hto2
        have hpl : (s.extract 0 (k + 1)).size = k + 1 := extract_size s 0 (k + 1) (by omega) (by omega)
        have hpn : strNat (s.extract 0 (k + 1)) = (strNat s).take k ++ [z] := by rw [strNat_extract, List.drop_zero, Nat.sub_zero, hkt, hzz]
        have HT := hide_it hto2
        have HPN := hide_it hpn
        have hd : ((z : Int) == 255) = false := by simp; omega
        clear hto2 hto hkt hzz hpn
        generalize hL : (strNat s).take k = L at *
        have hLl : L.length = k := by rw [← hL]; simp; omega
        have HL8 := hide_it hLl
        clear hL hLl
        generalize hpe : s.extract 0 (k + 1) = p at *
        have hconv := fun u : World => Lib.run_convert_string_bytes (P := Try.prog) u 9 51 5 p Try.underlying9 Try.underlying51 Try.underlying5
        have hrow := bytes_row w p
        rw [HPN.out] at hrow
        obtain ⟨b1, o1, e1, hlt1, hcells⟩ := hrow.here (i := k) (by rw [List.length_append, HL8.out]; simp)
        cases e1
        have hck := hcells k (by rw [List.length_append, HL8.out]; simp)
        have hatk : at0 (L ++ [z]) k = z := by
          unfold at0
          rw [List.getD_eq_getElem?_getD, List.getElem?_append_right (by rw [HL8.out]; omega), HL8.out]; simp
        rw [hatk, Nat.zero_add] at hck
        have hfk := bytes_thaw w p (j := k) (by omega)
        have hbel := bytes_below w p
        have hcap : k + 1 ≤ grownCap w p.size 0 5 := by rw [← hpl]; exact grownCap_ge _ _ _ _
        have hrow2 : RowB ((Lib.bytesWorld w 5 p).setCell ⟨w.heap.size, k, none⟩ (.int .u8 ((z + 1 : Nat) : Int))) (some ⟨w.heap.size, 0, none⟩) (L ++ [z + 1]) := by
          refine .inr ⟨w.heap.size, 0, rfl, by simpa using hlt1, fun i hi => ?_⟩
          rw [List.length_append, HL8.out] at hi
          simp at hi
          by_cases hik : i = k
          · rw [hik, Nat.zero_add, World.cell?_setCell_same _ _ _ hck]
            have : at0 (L ++ [z + 1]) k = z + 1 := by
              unfold at0
              rw [List.getD_eq_getElem?_getD, List.getElem?_append_right (by rw [HL8.out]; omega), HL8.out]; simp
            rw [this]
          · rw [World.cell?_setCell_other _ _ _ _ (by intro e; cases e; omega), hcells i (by rw [List.length_append, HL8.out]; simp; omega)]
            have hi2 : i < L.length := by rw [HL8.out]; omega
            unfold at0
            rw [List.getD_eq_getElem?_getD, List.getD_eq_getElem?_getD, List.getElem?_append_left hi2, List.getElem?_append_left hi2]
        have hcv := conv_row (cap := grownCap w p.size 0 5) hrow2 (fun e => by cases e)
        rw [show (L ++ [z + 1]).length = k + 1 by rw [List.length_append, HL8.out]; rfl] at hcv
        have hwz : IntKind.u8.wrap ((z : Int) + 1) = (z : Int) + 1 := by
          have := wrap_byte (z + 1)
          rw [show (((z + 1 : Nat)) : Int) = (z : Int) + 1 by omega] at this
          rw [this]
          omega
        rw [hpl] at hcv hcap
        rw [show (((z + 1 : Nat)) : Int) = (z : Int) + 1 by omega] at hcv
        clear hcells hrow hrow2
        generalize hW : Lib.bytesWorld w 5 p = W at *
        go_wp2_with fail
        go_ret2
        refine ⟨?_, hbel.setCell (Nat.le_refl _) _⟩
        rw [HT.out]
        rfl

end Go.Proofs.Ytelcfmjhbjnkoaa
