/- Next of every text: the document's answer, and the law's walk. -/
import Derived.Test.YtahnpbgbekbfhabNx1
import Derived.Test.YtahnpbgbekbfhabReg2
namespace Go.Proofs.Ytahnpbgbekbfhab.orderNexts
open Go.RowKit

theorem strNat_append (s t : ByteArray) : strNat (s ++ t) = strNat s ++ strNat t := by
  unfold strNat
  simp [ByteArray.data_append]

set_option maxRecDepth 100000 in
set_option maxHeartbeats 1000000 in
theorem rnext_any (s : ByteArray) (w : World) (hl : s.size ≤ 140737488351232) :
    Calls Try.prog 10 #[.string s] w fun e w' => (∃ q, strNat q = (nextRes (strNat s)).getD [] ∧ e = .returned (.tuple #[.string q, .bool (nextRes (strNat s)).isSome])) ∧ Below w.heap.size w w' := by
  have hsl : (strNat s).length = s.size := strNat_len s
  have h8 := strNat_all s
  obtain ⟨res, hres⟩ : ∃ z, z = nextRes (strNat s) := ⟨_, rfl⟩
  rw [← hres]
  have HRES := hide_it hres
  clear hres
  go_enter Try.func10, Try.ntmps10
  go_wp2_with fail
  go_loop [4] (fun i => ∃ k : Nat, k ≤ s.size ∧ i = .int .i64 ((k : Int) - 1) ∧ Hid (res = nextRes ((strNat s).take k))) (fun i => (intOf i + 1).toNat)
  case atStart => exact ⟨s.size, Nat.le_refl _, rfl, by unfold Hid; rw [HRES.out, List.take_of_length_le (by omega)]⟩
  case round =>
    obtain ⟨k, hk, rfl, hto⟩ := hrel
    cases k with
    | zero =>
      have hn : res = none := by rw [hto.out]; rfl
      go_wp2_with fail
      go_ret2
      exact ⟨⟨ByteArray.empty, rfl, rfl⟩, Below.refl _ _⟩
    | succ k =>
      have e1 : ((k + 1 : Nat) : Int) - 1 = (k : Int) := by omega
      rw [e1]
      have hks : k < s.size := by omega
      have hkt := take_snoc (bs := strNat s) (k := k) (by omega)
      have hix := str_at hks
      have hz8 := h8.at k
      have hto2 := hto.out
      rw [hkt, nextRes_snoc] at hto2
      obtain ⟨z, hzz⟩ : ∃ z, z = at0 (strNat s) k := ⟨_, rfl⟩
      rw [← hzz] at hix hz8 hto2
      by_cases hz : z = 255
      · subst hz
        rw [if_pos rfl] at hto2
        have HT := hide_it hto2
        clear hto2 hto hkt hz8 hzz
        go_wp2_with fail
        go_round
        case rel => exact ⟨k, by omega, by go_num, HT⟩
        case measure => simp [intOf]
      · rw [if_neg hz] at hto2
        have HT := hide_it hto2
        have hd : ((z : Int) == 255) = false := by simp; omega
        have hwz : IntKind.u8.wrap ((z : Int) + 1) = (z : Int) + 1 := by
          have := wrap_byte (z + 1)
          rw [show (((z + 1 : Nat)) : Int) = (z : Int) + 1 by omega] at this
          rw [this]
          omega
        have hpn : strNat (s.extract 0 k) = (strNat s).take k := by rw [strNat_extract, List.drop_zero, Nat.sub_zero]
        have HPN := hide_it hpn
        have hrow := row_lit w.drew [z + 1]
        have hcv : (convert 53 9 (.slice (some ⟨w.heap.size, 0, none⟩) 1 1)).run Try.prog (w.alloc (.cells #[.int .u8 ((z : Int) + 1)] 5)).drew = .ok (.string (strOf [z + 1])) (w.alloc (.cells #[.int .u8 ((z : Int) + 1)] 5)).drew := conv_row (cap := 1) hrow (fun e => by cases e)
        have hkle : k ≤ s.size := by omega
        have hcat : ¬ 9223372036854775807 < k + (strOf [z + 1]).size := by rw [strOf_size]; simp; omega
        clear hto2 hto hkt hpn hzz hrow
        go_wp2_with fail
        refine wp_region_held_drew (S := (fun w' => Below w.heap.size w w')) (by kernel_rfl) ?_ (fun hHeld => ?_)
        · exact (Below.refl _ _).drew
        refine take_on (i := 0) (v := ?_) rfl rfl (by kernel_rfl) (by kernel_rfl) (by kernel_rfl) (fun _ _ _ h => h) rfl ?_ hHeld ?_
        rotate_left
        · (intro wq hSq; skip; go_simp <;> first | with_reducible rfl | rfl)
        simp only [Act.put, List.setIfInBounds_toArray, List.set_cons_zero, List.set_cons_succ]
        refine take_on (i := 1) (v := ?_) rfl rfl (by kernel_rfl) (by kernel_rfl) (by kernel_rfl) (fun _ _ _ h => h) rfl ?_ hHeld ?_
        rotate_left
        · (intro wq hSq; skip; go_simp <;> first | with_reducible rfl | rfl)
        simp only [Act.put, List.setIfInBounds_toArray, List.set_cons_zero, List.set_cons_succ]
        refine take_on (i := 2) (v := ?_) rfl rfl (by kernel_rfl) (by kernel_rfl) (by kernel_rfl) (fun _ _ _ h => h) rfl ?_ hHeld ?_
        rotate_left
        · (intro wq hSq; skip; go_simp <;> first | with_reducible rfl | rfl)
        simp only [Act.put, List.setIfInBounds_toArray, List.set_cons_zero, List.set_cons_succ]
        refine take_on (i := 3) (v := ?_) rfl rfl (by kernel_rfl) (by kernel_rfl) (by kernel_rfl) (fun _ _ _ h => h) rfl ?_ hHeld ?_
        rotate_left
        · (intro wq hSq; skip; go_simp <;> first | with_reducible rfl | rfl)
        simp only [Act.put, List.setIfInBounds_toArray, List.set_cons_zero, List.set_cons_succ]
        refine take_on (i := 4) (v := ?_) rfl rfl (by kernel_rfl) (by kernel_rfl) (by kernel_rfl) (fun _ _ _ h => h) rfl ?_ hHeld ?_
        rotate_left
        · (intro wq hSq; skip; go_simp <;> first | with_reducible rfl | rfl)
        simp only [Act.put, List.setIfInBounds_toArray, List.set_cons_zero, List.set_cons_succ]
        refine take_on (i := 5) (v := ?_) rfl rfl (by kernel_rfl) (by kernel_rfl) (by kernel_rfl) (fun _ _ _ h => h) rfl ?_ hHeld ?_
        rotate_left
        · (intro wq hSq; skip; go_simp <;> first | with_reducible rfl | rfl)
        simp only [Act.put, List.setIfInBounds_toArray, List.set_cons_zero, List.set_cons_succ]
        refine take_on (i := 6) (v := ?_) rfl rfl (by kernel_rfl) (by kernel_rfl) (by kernel_rfl) (fun _ _ _ h => h) rfl ?_ hHeld ?_
        rotate_left
        · (intro wq hSq; skip; go_simp <;> first | with_reducible rfl | rfl)
        simp only [Act.put, List.setIfInBounds_toArray, List.set_cons_zero, List.set_cons_succ]
        refine take_one (i := 7) rfl (by kernel_rfl) (fun K hK => ?_)
        go_simp
        refine hK.out _ _ ?_ (fun hHeld => ?_)
        · exact hHeld.alloc hHeld.size _
        clear hK K
        try simp only [Act.put, List.setIfInBounds_toArray, List.set_cons_zero, List.set_cons_succ]
        refine take_one (i := 8) rfl (by kernel_rfl) (fun K hK => ?_)
        go_simp
        refine hK.out _ _ ?_ (fun hHeld => ?_)
        · exact hHeld
        clear hK K
        try simp only [Act.put, List.setIfInBounds_toArray, List.set_cons_zero, List.set_cons_succ]
        refine take_on (i := 9) (v := ?_) rfl rfl (by kernel_rfl) (by kernel_rfl) (by kernel_rfl) (fun _ _ _ h => h) rfl ?_ hHeld ?_
        rotate_left
        · (intro wq hSq; skip; go_simp <;> first | with_reducible rfl | rfl)
        simp only [Act.put, List.setIfInBounds_toArray, List.set_cons_zero, List.set_cons_succ]
        refine take_on (i := 10) (v := ?_) rfl rfl (by kernel_rfl) (by kernel_rfl) (by kernel_rfl) (fun _ _ _ h => h) rfl ?_ hHeld ?_
        rotate_left
        · (intro wq hSq; skip; go_simp <;> first | with_reducible rfl | rfl)
        simp only [Act.put, List.setIfInBounds_toArray, List.set_cons_zero, List.set_cons_succ]
        refine take_on (i := 11) (v := ?_) rfl rfl (by kernel_rfl) (by kernel_rfl) (by kernel_rfl) (fun _ _ _ h => h) rfl ?_ hHeld ?_
        rotate_left
        · (intro wq hSq; skip; go_simp <;> first | with_reducible rfl | rfl)
        simp only [Act.put, List.setIfInBounds_toArray, List.set_cons_zero, List.set_cons_succ]
        refine wpAnyH_done (by kernel_rfl) ?_ _
        have HB := hide_it hHeld
        go_wp2_with fail
        go_ret2
        refine ⟨⟨s.extract 0 k ++ strOf [z + 1], ?_, ?_⟩, HB.out⟩
        · rw [strNat_append, HPN.out, strNat_strOf (fun y hy => by rw [List.mem_singleton] at hy; omega), HT.out]; rfl
        · rw [HT.out]; rfl

set_option maxRecDepth 100000 in
set_option maxHeartbeats 1000000 in
theorem walk (s : ByteArray) (w : World) (hl : s.size ≤ 140737488351232) :
    Calls Try.prog 3 #[.string s] w fun e w' => e = .returned (.bool true) ∧ Below w.heap.size w w' := by
  have h1 := next_any s w hl
  have h2 := fun w => rnext_any s w hl
  have h8 : All8 ((nextRes (strNat s)).getD []) := by
    cases hn : nextRes (strNat s) with
    | none => intro z hz; cases hz
    | some n => exact next_all8 (strNat_all s) hn
  have hk := strNat_strOf h8
  have HK := hide_it hk
  clear h8 hk
  generalize (nextRes (strNat s)).getD [] = L at *
  generalize (nextRes (strNat s)).isSome = is at *
  generalize strOf L = n at *
  go_enter Try.func3, Try.ntmps3
  go_wp2_with fail
  refine h1.mono ?_
  rintro e w1 ⟨rfl, hb1⟩
  go_wp2_with fail
  refine (h2 _).mono ?_
  rintro e w2 ⟨⟨q, hq, rfl⟩, hc2⟩
  have hb2 := hb1.trans (hc2.mono hb1.size)
  have hnq : n = q := strNat_inj (by rw [HK.out, hq])
  subst hnq
  clear h1 h2 hb1 hc2
  cases is
  · go_wp2_with fail
    refine (awake_any _).mono ?_
    rintro e w3 ⟨rfl, hc3⟩
    have hb3 := hb2.trans (hc3.mono hb2.size)
    go_wp2_with fail
    go_ret
    exact ⟨rfl, hb3⟩
  · go_wp2_with fail
    refine (awake_any _).mono ?_
    rintro e w3 ⟨rfl, hc3⟩
    have hb3 := hb2.trans (hc3.mono hb2.size)
    go_wp2_with fail
    go_ret
    exact ⟨rfl, hb3⟩

end Go.Proofs.Ytahnpbgbekbfhab.orderNexts
