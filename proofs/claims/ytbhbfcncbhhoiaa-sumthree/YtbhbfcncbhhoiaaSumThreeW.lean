/- The law on three texts of one length, walked. -/
import Derived.Test.YtbhbfcncbhhoiaaSm3
import Derived.Test.YtbhbfcncbhhoiaaOpenB
import Derived.Test.YtbhbfcncbhhoiaaReg2
namespace Go.Proofs.Ytbhbfcncbhhoiaa.sumThree
open Go.RowKit

/-- What three texts make, byte by byte. -/
def four (xs ys zs : List Nat) (k : Nat) : List Nat := (List.range k).map fun i => at0 xs i ^^^ at0 ys i ^^^ at0 zs i
theorem four_len (xs ys zs : List Nat) (k : Nat) : (four xs ys zs k).length = k := by simp [four]
theorem four_succ (xs ys zs : List Nat) (k : Nat) : four xs ys zs (k + 1) = four xs ys zs k ++ [at0 xs k ^^^ at0 ys k ^^^ at0 zs k] := by simp [four, List.range_succ]
theorem byte_xor {a b : Nat} (ha : a < 256) (hb : b < 256) : a ^^^ b < 256 := Nat.xor_lt_two_pow (n := 8) ha hb
theorem four_8 {xs ys zs : List Nat} (hx : All8 xs) (hy : All8 ys) (hz : All8 zs) {k : Nat} (h1 : k ≤ xs.length) (h2 : k ≤ ys.length) (h3 : k ≤ zs.length) : All8 (four xs ys zs k) := by
  intro z hzm
  obtain ⟨i, hi, rfl⟩ := List.mem_map.1 hzm
  have hi : i < k := List.mem_range.1 hi
  exact byte_xor (byte_xor (hx _ (at0_mem (by omega))) (hy _ (at0_mem (by omega)))) (hz _ (at0_mem (by omega)))
theorem four_run (xs ys zs : List Nat) (u v x k : Nat) (h1 : k ≤ xs.length) (h2 : k ≤ ys.length) (h3 : k ≤ zs.length) : run (u ^^^ v ^^^ x) (four xs ys zs k) = run u (xs.take k) ^^^ run v (ys.take k) ^^^ run x (zs.take k) := by
  induction k with
  | zero => rfl
  | succ k ih =>
    rw [four_succ, run_snoc, ih (by omega) (by omega) (by omega), take_at h1, take_at h2, take_at h3, run_snoc, run_snoc, run_snoc, tak_xor, tak_xor]
theorem four_sum (xs ys zs : List Nat) (k : Nat) (h1 : k ≤ xs.length) (h2 : k ≤ ys.length) (h3 : k ≤ zs.length) : moreN 0 (four xs ys zs k) = moreN 0 (xs.take k) ^^^ moreN 0 (ys.take k) ^^^ moreN 0 (zs.take k) := by
  have h := four_run xs ys zs 4294967295 4294967295 4294967295 k h1 h2 h3
  have e : (4294967295 ^^^ 4294967295 ^^^ 4294967295 : Nat) = 4294967295 := by decide
  rw [e] at h
  unfold moreN
  rw [Nat.zero_xor, h]
  generalize run 4294967295 (xs.take k) = A
  generalize run 4294967295 (ys.take k) = B
  generalize run 4294967295 (zs.take k) = C
  apply Nat.eq_of_testBit_eq
  intro i
  simp only [Nat.testBit_xor]
  cases A.testBit i <;> cases B.testBit i <;> cases C.testBit i <;> cases (4294967295 : Nat).testBit i <;> rfl
theorem RowB.take {w : World} {a : Option Addr} {zs : List Nat} (h : RowB w a zs) (n : Nat) : RowB w a (zs.take n) := by
  rcases h with h | ⟨b, o, e, hlt, hc⟩
  · exact .inl (by rw [List.length_take]; omega)
  · refine .inr ⟨b, o, e, hlt, fun i hi => ?_⟩
    rw [List.length_take] at hi
    rw [hc i (by omega)]
    unfold at0
    rw [List.getD_eq_getElem?_getD, List.getD_eq_getElem?_getD, List.getElem?_take_of_lt (by omega)]

theorem min3 (x y z n : Nat) (hn : n = min (min x y) z) : (if (z : Int) < (if y < x then (y : Int) else (x : Int)) then (z : Int) else (if y < x then (y : Int) else (x : Int))) = (n : Int) := by
  subst hn
  split <;> split at * <;> omega

set_option maxRecDepth 100000 in
set_option maxHeartbeats 4000000 in
theorem walk (a : Option Addr) (ca : Nat) (xs : List Nat) (b : Option Addr) (cb : Nat) (ys : List Nat) (c : Option Addr) (cc : Nat) (zs : List Nat) (w : World) (hx : Came8 w a ca xs) (hy : Came8 w b cb ys) (hz : Came8 w c cc zs) :
    Calls Try.prog 8 #[.slice a xs.length ca, .slice b ys.length cb, .slice c zs.length cc] w fun e w' => e = .returned (.bool true) ∧ Below w.heap.size w w' := by
  have hlx : xs.length ≤ 140737488351232 := hx.size
  have hly : ys.length ≤ 140737488351232 := hy.size
  have hlz : zs.length ≤ 140737488351232 := hz.size
  obtain ⟨n, hn⟩ : ∃ n, n = min (min xs.length ys.length) zs.length := ⟨_, rfl⟩
  have hmin := min3 xs.length ys.length zs.length n hn
  have hnx : n ≤ xs.length := by omega
  have hny : n ≤ ys.length := by omega
  have hnz : n ≤ zs.length := by omega
  clear hn
  go_enter Try.func8, Try.ntmps8
  go_wp2_with fail
  refine (head_any _).mono ?_
  rintro e w1 ⟨rfl, hb1⟩
  have hs1 := hb1.size
  go_wp2_with fail
  have ho0 : OwnB (w1.alloc (.cells #[] 5)) w.heap.size (.slice (some ⟨w1.heap.size, 0, none⟩) 0 0) [] := (own_empty w1).mono hs1
  have hb0 : Below w.heap.size w (w1.alloc (.cells #[] 5)) := hb1.alloc hs1 _
  go_loopw [8, 9] (fun v i wr => ∃ k : Nat, k ≤ n ∧ i = .int .i64 (k : Int) ∧ OwnB wr w.heap.size v (four xs ys zs k) ∧ Below w.heap.size w wr) (fun _ i _ => n - (intOf i).toNat)
  case atStart => exact ⟨0, by omega, rfl, ho0, hb0⟩
  case round =>
    obtain ⟨k, hk, rfl, how, hbl⟩ := hrel
    clear ho0 hb0 hb1
    by_cases hlt : k < n
    · obtain ⟨ba, oa, rfl, la, hca⟩ := hx.row.here (i := k) (by omega)
      obtain ⟨bb, ob, rfl, lb, hcb⟩ := hy.row.here (i := k) (by omega)
      obtain ⟨bc, oc, rfl, lc, hcc⟩ := hz.row.here (i := k) (by omega)
      have ca1 := hca k (by omega)
      have cb1 := hcb k (by omega)
      have cc1 := hcc k (by omega)
      have ix : (k : Int) < (xs.length : Int) := by omega
      have iy : (k : Int) < (ys.length : Int) := by omega
      have iz : (k : Int) < (zs.length : Int) := by omega
      have ikn : (k : Int) < (n : Int) := by omega
      have l1 : at0 xs k < 256 := hx.all _ (at0_mem (by omega))
      have l2 : at0 ys k < 256 := hy.all _ (at0_mem (by omega))
      have l3 : at0 zs k < 256 := hz.all _ (at0_mem (by omega))
      have e1 := u8_xor_nat _ _ l1 l2
      have e2 := u8_xor_nat _ _ (byte_xor l1 l2) l3
      have HF := hide_it (four_succ xs ys zs k)
      have hlen := four_len xs ys zs k
      obtain ⟨F, hF⟩ : ∃ F, F = four xs ys zs k := ⟨_, rfl⟩
      rw [← hF] at HF hlen how
      clear hF hca hcb hcc hx hy hz
      have e3 : xs.length ≠ 0 := by omega
      have how2 : OwnB wr.drew w.heap.size u8 F := how.below (Below.refl _ _).drew
      obtain ⟨v2, w2, hrun, ho2, hg2, hat2⟩ := run_append_byte wr.drew w.heap.size u8 F 22 how2 (at0 xs k ^^^ at0 ys k ^^^ at0 zs k) (by omega) hbl.drew.size
      have hb2 : Below w.heap.size w w2 := (hbl.drew.alloc hbl.drew.size _).grown hg2 (by have := hbl.size; simp; omega) (fun j e => how2.ge e)
      rw [← HF.out] at ho2
      clear hat2 hg2 how2
      go_wp2_with fail
      refine wp_region_held_drew (S := (fun w' => Below w.heap.size w w')) (by kernel_rfl) ?_ (fun hHeld => ?_)
      · exact hbl.drew
      refine take_on (i := 0) (v := ?_) rfl rfl (by kernel_rfl) (by kernel_rfl) (by kernel_rfl) (fun _ _ _ h => h) rfl ?_ hHeld ?_
      rotate_left
      · (intro wq hSq; have q1 := (hSq.cell (p := ⟨ba, oa + k, none⟩) la).trans ca1; have q2 := (hSq.cell (p := ⟨bb, ob + k, none⟩) lb).trans cb1; have q3 := (hSq.cell (p := ⟨bc, oc + k, none⟩) lc).trans cc1; go_simp <;> first | with_reducible rfl | rfl)
      simp only [Act.put, List.setIfInBounds_toArray, List.set_cons_zero, List.set_cons_succ]
      refine take_on (i := 1) (v := ?_) rfl rfl (by kernel_rfl) (by kernel_rfl) (by kernel_rfl) (fun _ _ _ h => h) rfl ?_ hHeld ?_
      rotate_left
      · (intro wq hSq; have q1 := (hSq.cell (p := ⟨ba, oa + k, none⟩) la).trans ca1; have q2 := (hSq.cell (p := ⟨bb, ob + k, none⟩) lb).trans cb1; have q3 := (hSq.cell (p := ⟨bc, oc + k, none⟩) lc).trans cc1; go_simp <;> first | with_reducible rfl | rfl)
      simp only [Act.put, List.setIfInBounds_toArray, List.set_cons_zero, List.set_cons_succ]
      refine take_on (i := 2) (v := ?_) rfl rfl (by kernel_rfl) (by kernel_rfl) (by kernel_rfl) (fun _ _ _ h => h) rfl ?_ hHeld ?_
      rotate_left
      · (intro wq hSq; have q1 := (hSq.cell (p := ⟨ba, oa + k, none⟩) la).trans ca1; have q2 := (hSq.cell (p := ⟨bb, ob + k, none⟩) lb).trans cb1; have q3 := (hSq.cell (p := ⟨bc, oc + k, none⟩) lc).trans cc1; go_simp <;> first | with_reducible rfl | rfl)
      simp only [Act.put, List.setIfInBounds_toArray, List.set_cons_zero, List.set_cons_succ]
      refine take_on (i := 3) (v := ?_) rfl rfl (by kernel_rfl) (by kernel_rfl) (by kernel_rfl) (fun _ _ _ h => h) rfl ?_ hHeld ?_
      rotate_left
      · (intro wq hSq; have q1 := (hSq.cell (p := ⟨ba, oa + k, none⟩) la).trans ca1; have q2 := (hSq.cell (p := ⟨bb, ob + k, none⟩) lb).trans cb1; have q3 := (hSq.cell (p := ⟨bc, oc + k, none⟩) lc).trans cc1; go_simp <;> first | with_reducible rfl | rfl)
      simp only [Act.put, List.setIfInBounds_toArray, List.set_cons_zero, List.set_cons_succ]
      refine take_on (i := 4) (v := ?_) rfl rfl (by kernel_rfl) (by kernel_rfl) (by kernel_rfl) (fun _ _ _ h => h) rfl ?_ hHeld ?_
      rotate_left
      · (intro wq hSq; have q1 := (hSq.cell (p := ⟨ba, oa + k, none⟩) la).trans ca1; have q2 := (hSq.cell (p := ⟨bb, ob + k, none⟩) lb).trans cb1; have q3 := (hSq.cell (p := ⟨bc, oc + k, none⟩) lc).trans cc1; go_simp <;> first | with_reducible rfl | rfl)
      simp only [Act.put, List.setIfInBounds_toArray, List.set_cons_zero, List.set_cons_succ]
      refine take_on (i := 5) (v := ?_) rfl rfl (by kernel_rfl) (by kernel_rfl) (by kernel_rfl) (fun _ _ _ h => h) rfl ?_ hHeld ?_
      rotate_left
      · (intro wq hSq; have q1 := (hSq.cell (p := ⟨ba, oa + k, none⟩) la).trans ca1; have q2 := (hSq.cell (p := ⟨bb, ob + k, none⟩) lb).trans cb1; have q3 := (hSq.cell (p := ⟨bc, oc + k, none⟩) lc).trans cc1; go_simp <;> first | with_reducible rfl | rfl)
      simp only [Act.put, List.setIfInBounds_toArray, List.set_cons_zero, List.set_cons_succ]
      refine take_on (i := 6) (v := ?_) rfl rfl (by kernel_rfl) (by kernel_rfl) (by kernel_rfl) (fun _ _ _ h => h) rfl ?_ hHeld ?_
      rotate_left
      · (intro wq hSq; have q1 := (hSq.cell (p := ⟨ba, oa + k, none⟩) la).trans ca1; have q2 := (hSq.cell (p := ⟨bb, ob + k, none⟩) lb).trans cb1; have q3 := (hSq.cell (p := ⟨bc, oc + k, none⟩) lc).trans cc1; go_simp <;> first | with_reducible rfl | rfl)
      simp only [Act.put, List.setIfInBounds_toArray, List.set_cons_zero, List.set_cons_succ]
      refine take_on (i := 7) (v := ?_) rfl rfl (by kernel_rfl) (by kernel_rfl) (by kernel_rfl) (fun _ _ _ h => h) rfl ?_ hHeld ?_
      rotate_left
      · (intro wq hSq; have q1 := (hSq.cell (p := ⟨ba, oa + k, none⟩) la).trans ca1; have q2 := (hSq.cell (p := ⟨bb, ob + k, none⟩) lb).trans cb1; have q3 := (hSq.cell (p := ⟨bc, oc + k, none⟩) lc).trans cc1; go_simp <;> first | with_reducible rfl | rfl)
      simp only [Act.put, List.setIfInBounds_toArray, List.set_cons_zero, List.set_cons_succ]
      refine take_on (i := 8) (v := ?_) rfl rfl (by kernel_rfl) (by kernel_rfl) (by kernel_rfl) (fun _ _ _ h => h) rfl ?_ hHeld ?_
      rotate_left
      · (intro wq hSq; have q1 := (hSq.cell (p := ⟨ba, oa + k, none⟩) la).trans ca1; have q2 := (hSq.cell (p := ⟨bb, ob + k, none⟩) lb).trans cb1; have q3 := (hSq.cell (p := ⟨bc, oc + k, none⟩) lc).trans cc1; go_simp <;> first | with_reducible rfl | rfl)
      simp only [Act.put, List.setIfInBounds_toArray, List.set_cons_zero, List.set_cons_succ]
      refine take_on (i := 9) (v := ?_) rfl rfl (by kernel_rfl) (by kernel_rfl) (by kernel_rfl) (fun _ _ _ h => h) rfl ?_ hHeld ?_
      rotate_left
      · (intro wq hSq; have q1 := (hSq.cell (p := ⟨ba, oa + k, none⟩) la).trans ca1; have q2 := (hSq.cell (p := ⟨bb, ob + k, none⟩) lb).trans cb1; have q3 := (hSq.cell (p := ⟨bc, oc + k, none⟩) lc).trans cc1; go_simp <;> first | with_reducible rfl | rfl)
      simp only [Act.put, List.setIfInBounds_toArray, List.set_cons_zero, List.set_cons_succ]
      refine take_on (i := 10) (v := ?_) rfl rfl (by kernel_rfl) (by kernel_rfl) (by kernel_rfl) (fun _ _ _ h => h) rfl ?_ hHeld ?_
      rotate_left
      · (intro wq hSq; have q1 := (hSq.cell (p := ⟨ba, oa + k, none⟩) la).trans ca1; have q2 := (hSq.cell (p := ⟨bb, ob + k, none⟩) lb).trans cb1; have q3 := (hSq.cell (p := ⟨bc, oc + k, none⟩) lc).trans cc1; go_simp <;> first | with_reducible rfl | rfl)
      simp only [Act.put, List.setIfInBounds_toArray, List.set_cons_zero, List.set_cons_succ]
      refine take_on (i := 11) (v := ?_) rfl rfl (by kernel_rfl) (by kernel_rfl) (by kernel_rfl) (fun _ _ _ h => h) rfl ?_ hHeld ?_
      rotate_left
      · (intro wq hSq; have q1 := (hSq.cell (p := ⟨ba, oa + k, none⟩) la).trans ca1; have q2 := (hSq.cell (p := ⟨bb, ob + k, none⟩) lb).trans cb1; have q3 := (hSq.cell (p := ⟨bc, oc + k, none⟩) lc).trans cc1; go_simp <;> first | with_reducible rfl | rfl)
      simp only [Act.put, List.setIfInBounds_toArray, List.set_cons_zero, List.set_cons_succ]
      refine take_on (i := 12) (v := ?_) rfl rfl (by kernel_rfl) (by kernel_rfl) (by kernel_rfl) (fun _ _ _ h => h) rfl ?_ hHeld ?_
      rotate_left
      · (intro wq hSq; have q1 := (hSq.cell (p := ⟨ba, oa + k, none⟩) la).trans ca1; have q2 := (hSq.cell (p := ⟨bb, ob + k, none⟩) lb).trans cb1; have q3 := (hSq.cell (p := ⟨bc, oc + k, none⟩) lc).trans cc1; go_simp <;> first | with_reducible rfl | rfl)
      simp only [Act.put, List.setIfInBounds_toArray, List.set_cons_zero, List.set_cons_succ]
      refine take_on (i := 13) (v := ?_) rfl rfl (by kernel_rfl) (by kernel_rfl) (by kernel_rfl) (fun _ _ _ h => h) rfl ?_ hHeld ?_
      rotate_left
      · (intro wq hSq; have q1 := (hSq.cell (p := ⟨ba, oa + k, none⟩) la).trans ca1; have q2 := (hSq.cell (p := ⟨bb, ob + k, none⟩) lb).trans cb1; have q3 := (hSq.cell (p := ⟨bc, oc + k, none⟩) lc).trans cc1; go_simp <;> first | with_reducible rfl | rfl)
      simp only [Act.put, List.setIfInBounds_toArray, List.set_cons_zero, List.set_cons_succ]
      refine take_on (i := 14) (v := ?_) rfl rfl (by kernel_rfl) (by kernel_rfl) (by kernel_rfl) (fun _ _ _ h => h) rfl ?_ hHeld ?_
      rotate_left
      · (intro wq hSq; have q1 := (hSq.cell (p := ⟨ba, oa + k, none⟩) la).trans ca1; have q2 := (hSq.cell (p := ⟨bb, ob + k, none⟩) lb).trans cb1; have q3 := (hSq.cell (p := ⟨bc, oc + k, none⟩) lc).trans cc1; go_simp <;> first | with_reducible rfl | rfl)
      simp only [Act.put, List.setIfInBounds_toArray, List.set_cons_zero, List.set_cons_succ]
      refine take_one (i := 15) rfl (by kernel_rfl) (fun K hK => ?_)
      go_simp
      refine hK.out _ _ ?_ (fun hHeld => ?_)
      · exact hHeld.alloc hHeld.size _
      clear hK K
      try simp only [Act.put, List.setIfInBounds_toArray, List.set_cons_zero, List.set_cons_succ]
      refine take_one (i := 16) rfl (by kernel_rfl) (fun K hK => ?_)
      refine step_append_run rfl _ _ _ rfl _ _ _ _ rfl rfl hrun ?_
      refine hK.out _ _ ?_ (fun hHeld => ?_)
      · exact hb2
      clear hK K
      try simp only [Act.put, List.setIfInBounds_toArray, List.set_cons_zero, List.set_cons_succ]
      refine take_on (i := 17) (v := ?_) rfl rfl (by kernel_rfl) (by kernel_rfl) (by kernel_rfl) (fun _ _ _ h => h) rfl ?_ hHeld ?_
      rotate_left
      · (intro wq hSq; have q1 := (hSq.cell (p := ⟨ba, oa + k, none⟩) la).trans ca1; have q2 := (hSq.cell (p := ⟨bb, ob + k, none⟩) lb).trans cb1; have q3 := (hSq.cell (p := ⟨bc, oc + k, none⟩) lc).trans cc1; go_simp <;> first | with_reducible rfl | rfl)
      simp only [Act.put, List.setIfInBounds_toArray, List.set_cons_zero, List.set_cons_succ]
      refine wpAnyH_done (by kernel_rfl) ?_ _
      go_wp2_with fail
      go_roundw
      case rel => exact ⟨k + 1, by omega, by go_num, ho2, hb2⟩
      case measure => simp [intOf]; omega
    · have hkn : k = n := by omega
      subst hkn
      have hra := (RowB.take hx.row k).below hbl
      have hrb := (RowB.take hy.row k).below hbl
      have hrc := (RowB.take hz.row k).below hbl
      have la : (xs.take k).length = k := by rw [List.length_take]; omega
      have lb : (ys.take k).length = k := by rw [List.length_take]; omega
      have lc : (zs.take k).length = k := by rw [List.length_take]; omega
      have ka : k ≤ ca := by have := hx.fits; omega
      have kb : k ≤ cb := by have := hy.fits; omega
      have kc : k ≤ cc := by have := hz.fits; omega
      have ha8 : All8 (xs.take k) := fun z h => hx.all z (List.mem_of_mem_take h)
      have hb8 : All8 (ys.take k) := fun z h => hy.all z (List.mem_of_mem_take h)
      have hc8 : All8 (zs.take k) := fun z h => hz.all z (List.mem_of_mem_take h)
      have hna : a = none → (xs.take k).length = 0 ∧ ca = 0 := fun e => by have := hx.none e; omega
      have hnb : b = none → (ys.take k).length = 0 ∧ cb = 0 := fun e => by have := hy.none e; omega
      have hnc : c = none → (zs.take k).length = 0 ∧ cc = 0 := fun e => by have := hz.none e; omega
      have HS := hide_it (four_sum xs ys zs k hnx hny hnz)
      have hf8 := four_8 hx.all hy.all hz.all hnx hny hnz
      have hfl := four_len xs ys zs k
      obtain ⟨F, hF⟩ : ∃ F, F = four xs ys zs k := ⟨_, rfl⟩
      rw [← hF] at HS hfl how hf8
      have cpa := fun (v : World) (h : Below wr.heap.size wr v) => copied_any a ca (xs.take k) v (hra.below h) (by omega) hna
      have cpb := fun (v : World) (h : Below wr.heap.size wr v) => copied_any b cb (ys.take k) v (hrb.below h) (by omega) hnb
      have cpc := fun (v : World) (h : Below wr.heap.size wr v) => copied_any c cc (zs.take k) v (hrc.below h) (by omega) hnc
      rw [la] at cpa
      rw [lb] at cpb
      rw [lc] at cpc
      have ofa := fun p q v h => of_any p q (xs.take k) v h ha8 (by unfold maxLen; omega)
      have ofb := fun p q v h => of_any p q (ys.take k) v h hb8 (by unfold maxLen; omega)
      have ofc := fun p q v h => of_any p q (zs.take k) v h hc8 (by unfold maxLen; omega)
      rw [la] at ofa
      rw [lb] at ofb
      rw [lc] at ofc
      have r1 : W32 (moreN 0 (xs.take k)) := more32 (by unfold W32; omega) ha8
      have r2 : W32 (moreN 0 (ys.take k)) := more32 (by unfold W32; omega) hb8
      have r3 : W32 (moreN 0 (zs.take k)) := more32 (by unfold W32; omega) hc8
      obtain ⟨A, hA⟩ : ∃ A, A = xs.take k := ⟨_, rfl⟩
      obtain ⟨B, hB⟩ : ∃ B, B = ys.take k := ⟨_, rfl⟩
      obtain ⟨C, hC⟩ : ∃ C, C = zs.take k := ⟨_, rfl⟩
      rw [← hA] at cpa ofa r1 HS la
      rw [← hB] at cpb ofb r2 HS lb
      rw [← hC] at cpc ofc r3 HS lc
      obtain ⟨S1, hS1⟩ : ∃ A', A' = moreN 0 A := ⟨_, rfl⟩
      obtain ⟨S2, hS2⟩ : ∃ A', A' = moreN 0 B := ⟨_, rfl⟩
      obtain ⟨S3, hS3⟩ : ∃ A', A' = moreN 0 C := ⟨_, rfl⟩
      rw [← hS1] at ofa r1 HS
      rw [← hS2] at ofb r2 HS
      rw [← hS3] at ofc r3 HS
      have e1 := u32_xor_nat _ _ r1 r2
      have e2 := u32_xor_nat _ _ (xor32 r1 r2) r3
      have LA := hide_it la
      have LB := hide_it lb
      have LC := hide_it lc
      clear hA hB hC hS1 hS2 hS3 hF hra hrb hrc hx hy hz hna hnb hnc ha8 hb8 hc8 la lb lc hmin
      go_wp2_with fail
      refine wp_region_held_drew (S := (fun w' => Below wr.heap.size wr w')) (by kernel_rfl) ?_ (fun hHeld => ?_)
      · exact (Below.refl _ _).drew
      refine take_on (i := 0) (v := ?_) rfl rfl (by kernel_rfl) (by kernel_rfl) (by kernel_rfl) (fun _ _ _ h => h) rfl ?_ hHeld ?_
      rotate_left
      · (intro wq hSq; skip; go_simp <;> first | with_reducible rfl | rfl)
      simp only [Act.put, List.setIfInBounds_toArray, List.set_cons_zero, List.set_cons_succ]
      refine take_on (i := 1) (v := ?_) rfl rfl (by kernel_rfl) (by kernel_rfl) (by kernel_rfl) (fun _ _ _ h => h) rfl ?_ hHeld ?_
      rotate_left
      · (intro wq hSq; skip; go_simp <;> first | with_reducible rfl | rfl)
      simp only [Act.put, List.setIfInBounds_toArray, List.set_cons_zero, List.set_cons_succ]
      refine take_on (i := 2) (v := ?_) rfl rfl (by kernel_rfl) (by kernel_rfl) (by kernel_rfl) (fun _ _ _ h => h) rfl ?_ hHeld ?_
      rotate_left
      · (intro wq hSq; skip; go_simp <;> first | with_reducible rfl | rfl)
      simp only [Act.put, List.setIfInBounds_toArray, List.set_cons_zero, List.set_cons_succ]
      refine take_on (i := 5) (v := ?_) rfl rfl (by kernel_rfl) (by kernel_rfl) (by kernel_rfl) (fun _ _ _ h => h) rfl ?_ hHeld ?_
      rotate_left
      · (intro wq hSq; skip; go_simp <;> first | with_reducible rfl | rfl)
      simp only [Act.put, List.setIfInBounds_toArray, List.set_cons_zero, List.set_cons_succ]
      refine take_on (i := 6) (v := ?_) rfl rfl (by kernel_rfl) (by kernel_rfl) (by kernel_rfl) (fun _ _ _ h => h) rfl ?_ hHeld ?_
      rotate_left
      · (intro wq hSq; skip; go_simp <;> first | with_reducible rfl | rfl)
      simp only [Act.put, List.setIfInBounds_toArray, List.set_cons_zero, List.set_cons_succ]
      refine take_on (i := 7) (v := ?_) rfl rfl (by kernel_rfl) (by kernel_rfl) (by kernel_rfl) (fun _ _ _ h => h) rfl ?_ hHeld ?_
      rotate_left
      · (intro wq hSq; skip; go_simp <;> first | with_reducible rfl | rfl)
      simp only [Act.put, List.setIfInBounds_toArray, List.set_cons_zero, List.set_cons_succ]
      refine take_on (i := 11) (v := ?_) rfl rfl (by kernel_rfl) (by kernel_rfl) (by kernel_rfl) (fun _ _ _ h => h) rfl ?_ hHeld ?_
      rotate_left
      · (intro wq hSq; skip; go_simp <;> first | with_reducible rfl | rfl)
      simp only [Act.put, List.setIfInBounds_toArray, List.set_cons_zero, List.set_cons_succ]
      refine take_on (i := 12) (v := ?_) rfl rfl (by kernel_rfl) (by kernel_rfl) (by kernel_rfl) (fun _ _ _ h => h) rfl ?_ hHeld ?_
      rotate_left
      · (intro wq hSq; skip; go_simp <;> first | with_reducible rfl | rfl)
      simp only [Act.put, List.setIfInBounds_toArray, List.set_cons_zero, List.set_cons_succ]
      refine take_on (i := 13) (v := ?_) rfl rfl (by kernel_rfl) (by kernel_rfl) (by kernel_rfl) (fun _ _ _ h => h) rfl ?_ hHeld ?_
      rotate_left
      · (intro wq hSq; skip; go_simp <;> first | with_reducible rfl | rfl)
      simp only [Act.put, List.setIfInBounds_toArray, List.set_cons_zero, List.set_cons_succ]
      refine take_one (i := 3) rfl (by kernel_rfl) (fun K hK => ?_)
      go_simp
      refine (cpa _ hHeld).mono ?_; rintro e y1 ⟨⟨r1, rfl, ho1⟩, hb1⟩; obtain ⟨pa, qa, hv1, hpa, _, _, _⟩ := ho1.row; rw [LA.out] at hv1; subst hv1; have hSx := hHeld.trans (hb1.mono hHeld.size); clear ho1 hb1
      try go_wp2_with fail
      refine hK.out _ _ ?_ (fun hHeld => ?_)
      · exact hSx
      clear hK K
      try simp only [Act.put, List.setIfInBounds_toArray, List.set_cons_zero, List.set_cons_succ]
      refine take_one (i := 4) rfl (by kernel_rfl) (fun K hK => ?_)
      go_simp
      refine (ofa _ _ _ hpa).mono ?_; rintro e y2 ⟨rfl, hb2⟩; have hSy := hHeld.trans (hb2.mono hHeld.size); clear hb2
      try go_wp2_with fail
      refine hK.out _ _ ?_ (fun hHeld => ?_)
      · exact hSy
      clear hK K
      try simp only [Act.put, List.setIfInBounds_toArray, List.set_cons_zero, List.set_cons_succ]
      refine take_one (i := 8) rfl (by kernel_rfl) (fun K hK => ?_)
      go_simp
      refine (cpb _ hHeld).mono ?_; rintro e y1 ⟨⟨r1, rfl, ho1⟩, hb1⟩; obtain ⟨pb, qb, hv1, hpb, _, _, _⟩ := ho1.row; rw [LB.out] at hv1; subst hv1; have hSx := hHeld.trans (hb1.mono hHeld.size); clear ho1 hb1
      try go_wp2_with fail
      refine hK.out _ _ ?_ (fun hHeld => ?_)
      · exact hSx
      clear hK K
      try simp only [Act.put, List.setIfInBounds_toArray, List.set_cons_zero, List.set_cons_succ]
      refine take_one (i := 9) rfl (by kernel_rfl) (fun K hK => ?_)
      go_simp
      refine (ofb _ _ _ hpb).mono ?_; rintro e y2 ⟨rfl, hb2⟩; have hSy := hHeld.trans (hb2.mono hHeld.size); clear hb2
      try go_wp2_with fail
      refine hK.out _ _ ?_ (fun hHeld => ?_)
      · exact hSy
      clear hK K
      try simp only [Act.put, List.setIfInBounds_toArray, List.set_cons_zero, List.set_cons_succ]
      refine take_on (i := 10) (v := ?_) rfl rfl (by kernel_rfl) (by kernel_rfl) (by kernel_rfl) (fun _ _ _ h => h) rfl ?_ hHeld ?_
      rotate_left
      · (intro wq hSq; skip; go_simp <;> first | with_reducible rfl | rfl)
      simp only [Act.put, List.setIfInBounds_toArray, List.set_cons_zero, List.set_cons_succ]
      refine take_one (i := 14) rfl (by kernel_rfl) (fun K hK => ?_)
      go_simp
      refine (cpc _ hHeld).mono ?_; rintro e y1 ⟨⟨r1, rfl, ho1⟩, hb1⟩; obtain ⟨pc, qc, hv1, hpc, _, _, _⟩ := ho1.row; rw [LC.out] at hv1; subst hv1; have hSx := hHeld.trans (hb1.mono hHeld.size); clear ho1 hb1
      try go_wp2_with fail
      refine hK.out _ _ ?_ (fun hHeld => ?_)
      · exact hSx
      clear hK K
      try simp only [Act.put, List.setIfInBounds_toArray, List.set_cons_zero, List.set_cons_succ]
      refine take_one (i := 15) rfl (by kernel_rfl) (fun K hK => ?_)
      go_simp
      refine (ofc _ _ _ hpc).mono ?_; rintro e y2 ⟨rfl, hb2⟩; have hSy := hHeld.trans (hb2.mono hHeld.size); clear hb2
      try go_wp2_with fail
      refine hK.out _ _ ?_ (fun hHeld => ?_)
      · exact hSy
      clear hK K
      try simp only [Act.put, List.setIfInBounds_toArray, List.set_cons_zero, List.set_cons_succ]
      refine take_on (i := 16) (v := ?_) rfl rfl (by kernel_rfl) (by kernel_rfl) (by kernel_rfl) (fun _ _ _ h => h) rfl ?_ hHeld ?_
      rotate_left
      · (intro wq hSq; skip; go_simp <;> first | with_reducible rfl | rfl)
      simp only [Act.put, List.setIfInBounds_toArray, List.set_cons_zero, List.set_cons_succ]
      refine take_on (i := 17) (v := ?_) rfl rfl (by kernel_rfl) (by kernel_rfl) (by kernel_rfl) (fun _ _ _ h => h) rfl ?_ hHeld ?_
      rotate_left
      · (intro wq hSq; skip; go_simp <;> first | with_reducible rfl | rfl)
      simp only [Act.put, List.setIfInBounds_toArray, List.set_cons_zero, List.set_cons_succ]
      refine wpAnyH_done (by kernel_rfl) ?_ _
      have how2 := how.below hHeld
      obtain ⟨p4, q4, hv4, hp4, _, _, _⟩ := how2.row
      subst hv4
      have hof := of_any p4 q4 F _ hp4 hf8 (by rw [hfl]; unfold maxLen; omega)
      rw [HS.out] at hof
      have hbz := hbl.trans (hHeld.mono hbl.size)
      have hd : ((((S1 ^^^ S2 ^^^ S3 : Nat) : Int)) == (((S1 ^^^ S2 ^^^ S3 : Nat) : Int))) = true := by simp
      clear how how2 hp4 hfl
      go_wp2_with fail
      refine hof.mono ?_
      rintro e w6 ⟨rfl, hb6⟩
      have hbw6 := hbz.trans (hb6.mono hbz.size)
      clear hof hb6
      go_wp2_with fail
      go_ret
      exact ⟨rfl, hbw6⟩
end Go.Proofs.Ytbhbfcncbhhoiaa.sumThree
