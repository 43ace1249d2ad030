/- What is handed in stays, what is answered is new memory: the law's walk. -/
import Derived.Test.YtelcfmjhbjnkoaaKps2
namespace Go.Proofs.Ytelcfmjhbjnkoaa.orderKeeps
open Go.RowKit

attribute [local go_sem] st_float st_complex

theorem dec_few (l : List Nat) (h : ∀ z ∈ l, z < 256) : (decRes l).1.length ≤ 64 := by
  unfold decRes
  cases hd : decF 64 l with
  | none => simp
  | some ys => exact (decF_form 64 l ys h hd).2.1

theorem rowAtI {w : World} {base n c : Nat} {a : Option Addr} {ys : List It} (h : OwnI w base (.slice a n c) ys) : RowI w a ys := by
  obtain ⟨a', c', e, hr, _⟩ := h.row
  injection e with e1
  subst e1
  exact hr
theorem rowAtD {w : World} {base n c : Nat} {a : Option Addr} {ys : List It} (h : OwnD w base (.slice a n c) ys) : RowR w a ys := by
  obtain ⟨a', c', e, hr, _⟩ := h.row
  injection e with e1
  subst e1
  exact hr

set_option maxRecDepth 100000 in
set_option maxHeartbeats 4000000 in
theorem walk (a : Option Addr) (ca : Nat) (xs : List It) (s t : ByteArray) (w : World) (hra : RowR w a xs) (hla : xs.length ≤ 1048576) (hoa : ∀ x ∈ xs, ItOk x ∧ x.t.size ≤ 1048576) (hs : s.size ≤ 1048576) (ht : t.size ≤ 1048576) :
    Calls Try.prog 3 #[.slice a xs.length ca, .string s, .string t] w fun e w' => e = .returned (.bool true) ∧ Below w.heap.size w w' := by
  have HX := hide_it hra
  have HOK := hide_it (show AllOk xs from fun x hx => ⟨(hoa x hx).1, by have := (hoa x hx).2; omega⟩)
  have HIT := hide_it (fun x hx => (hoa x hx).1)
  clear hra hoa
  obtain ⟨L, hL⟩ : ∃ L, L = xs.length := ⟨_, rfl⟩
  have hitm : ∀ w1, Below w.heap.size w w1 → Calls Try.prog 5 #[.slice a L ca] w1 fun e w' => (∃ v, e = .returned v ∧ OwnI w' w1.heap.size v xs) ∧ Below w1.heap.size w1 w' := fun w1 h1 => by
    rw [hL]; exact items_any a ca xs w1 (HX.out.below h1) (by omega)
  rw [← hL] at hla ⊢
  have HL := hide_it hL
  clear hL
  go_enter Try.func3, Try.ntmps3
  go_wp2_with fail
  refine (awake_any _).mono ?_
  rintro e w1 ⟨rfl, hb1⟩
  have hbs1 := hb1.size
  have hit1 := hitm w1 hb1
  have HB1 := hide_it hb1
  clear hitm hb1
  go_wp2_with fail
  refine hit1.mono ?_
  rintro e w2 ⟨⟨v2, rfl, hown2⟩, hb2⟩
  have HO2 := hide_it hown2
  have HB2 := hide_it (HB1.out.trans (hb2.mono hbs1))
  have hbs2 : w1.heap.size ≤ w2.heap.size := hb2.size
  clear hb2 hown2 hit1
  go_wp2_with fail
  go_loopw [7, 8] (fun v i wr => ∃ k : Nat, k ≤ 70 ∧ i = .int .i64 (k : Int) ∧ Hid (OwnI wr w1.heap.size v (xs ++ marks k)) ∧ Hid (Below w.heap.size w wr) ∧ w1.heap.size ≤ wr.heap.size) (fun _ i _ => 70 - (intOf i).toNat)
  case atStart => exact ⟨0, by omega, rfl, hide_it (by have := HO2.out; simpa [marks] using this), HB2, hbs2⟩
  case round =>
    obtain ⟨k, hk, rfl, HO, HB, hbq⟩ := hrel
    clear HO2 HB2 hbs2
    by_cases hlt : k < 70
    · have hki : (k : Int) < 70 := by omega
      have hw1 : IntKind.i64.wrap ((k : Int) + 1) = (k : Int) + 1 := (by simp [IntKind.wrap, IntKind.bits, IntKind.signed]; omega)
      have hmk := marked_any k wr (by omega)
      have hln : (xs ++ marks k).length ≤ 1048646 := by simp [marks_len, ← HL.out]; omega
      have HLN := hide_it hln
      have HS := hide_it (marks_succ k)
      clear hln
      go_wp2_with fail
      refine hmk.mono ?_
      rintro e w3 ⟨rfl, hb3⟩
      have how3 := HO.out.below hb3
      have hbl3 := HB.out.trans (hb3.mono HB.out.size)
      have hbq3 : w1.heap.size ≤ w3.heap.size := Nat.le_trans hbq hb3.size
      have HO3 := hide_it how3
      have HBL3 := hide_it hbl3
      clear hmk hb3 how3 hbl3
      go_wp2_with (at_builtin; refine wpList_append_item _ rfl _ _ rfl w1.heap.size _ (xs ++ marks k) rfl HO3.out (mark k) (by first | rfl | (show Value.slice (some ⟨_, 0, none⟩) 1 1 = _; simp)) (by have := HLN.out; omega) hbq3 ?_; intro v4 w4 hown4 hg4 hat4; have HO4 := hide_it hown4; have HG4 := hide_it hg4; clear hown4 hg4 hat4)
      have hq4 := HG4.out.size
      go_roundw
      case rel =>
        have hbA : Below w.heap.size w w4 := (HBL3.out.alloc HBL3.out.size _).grown HG4.out (by have := HBL3.out.size; simp; omega) (fun j e => Nat.le_trans hbs1 (HO3.out.ge e))
        exact ⟨k + 1, by omega, by go_num, (show OwnI _ _ _ _ by rw [HS.out, ← List.append_assoc]; exact HO4.out), hbA, by simp at hq4; omega⟩
      case measure => simp [intOf]; omega
    · have hki : ¬ (k : Int) < 70 := by omega
      have how : OwnI wr w1.heap.size u7 (xs ++ marks 70) := by have := HO.out; rwa [show k = 70 by omega] at this
      obtain ⟨a3, c3, hv3, hr3, hc3, _⟩ := how.row
      obtain ⟨N, hN⟩ : ∃ N, N = (xs ++ marks 70).length := ⟨_, rfl⟩
      have hN1 : L + 70 ≤ N := by rw [hN, HL.out]; simp [marks_len]
      have hN2 : N ≤ L + 70 := by rw [hN, HL.out]; simp [marks_len]
      rw [← hN] at hv3 hc3
      subst hv3
      have hrx : RowI wr a3 xs := by have := hr3.take xs.length; rwa [List.take_left' rfl] at this
      have hen := encode_any a3 c3 xs wr hrx HOK.out (by rw [← HL.out]; omega)
      rw [← HL.out] at hen
      have HR3 := hide_it hr3
      have HRX := hide_it hrx
      have HN := hide_it hN
      have hLc : L ≤ c3 := by omega
      have hbs := HB.out.size
      clear how hr3 hrx hN HO
      generalize strOf (encRes xs).1 = z1 at *
      generalize (encRes xs).2 = z2 at *
      go_wp2_with fail
      refine hen.mono ?_
      rintro e w4 ⟨rfl, hb4⟩
      have hbw4 := HB.out.trans (hb4.mono hbs)
      have hcm := compareAll_any a3 a3 c3 c3 xs xs w4 (HRX.out.below hb4) (HRX.out.below hb4) HIT.out HIT.out (by rw [← HL.out]; omega) (by rw [← HL.out]; omega)
      rw [← HL.out] at hcm
      have HR4 := hide_it (HR3.out.below hb4)
      have HBW4 := hide_it hbw4
      clear hen HR3 HRX hb4 hbw4 hbq HB
      generalize cmpAll xs xs = z3 at *
      go_wp2_with fail
      refine hcm.mono ?_
      rintro e w5 ⟨rfl, hb5⟩
      have HBW5 := hide_it (HBW4.out.trans (hb5.mono HBW4.out.size))
      have HR5 := hide_it (HR4.out.below hb5)
      clear hcm HR4 hb5 HBW4
      go_wp2_with fail
      go_loopw [10] (fun i wr => ∃ k : Nat, k ≤ N ∧ i = .int .i64 (k : Int) ∧ Hid (Below w.heap.size w wr) ∧ Hid (Below w5.heap.size w5 wr)) (fun i _ => N - (intOf i).toNat)
      case atStart => exact ⟨0, by omega, rfl, HBW5, Below.refl _ _⟩
      case round =>
        obtain ⟨k2, hk2, rfl, HBL, HBK⟩ := hrel
        by_cases hlt2 : k2 < N
        · have hki2 : (k2 : Int) < (N : Int) := by omega
          have hw1 : IntKind.i64.wrap ((k2 : Int) + 1) = (k2 : Int) + 1 := (by simp [IntKind.wrap, IntKind.bits, IntKind.signed]; omega)
          obtain ⟨b1, o1, ha3, l1, at0'⟩ := HR5.out.here (i := k2) (by rw [← HN.out]; exact hlt2)
          have at1 := at0'.below HBK.out l1
          have lw1 : b1 < wr.heap.size := Nat.lt_of_lt_of_le l1 HBK.out.size
          clear at0'
          subst ha3
          by_cases hkx : k2 < L
          · have hd2 : (k2 : Int) < (L : Int) := by omega
            have hd3 : ¬ (L : Int) ≤ (k2 : Int) := by omega
            have hd4 : ¬ L ≤ k2 := by omega
            have hkx' : k2 < xs.length := by rw [← HL.out]; exact hkx
            obtain ⟨b2, o2, ha2, l2, at2'⟩ := HX.out.here hkx'
            have at2 := at2'.below HBL.out l2
            have lw2 : b2 < wr.heap.size := Nat.lt_of_lt_of_le l2 HBL.out.size
            rw [List.getElem_append_left hkx'] at at1
            have hit := fun w => lawItem_any xs[k2] w
            have hsm := fun w => same_any xs[k2] w
            generalize xs[k2] = x at *
            subst ha2
            clear at2' hkx'
            go_wp2_with fail
            refine wp_region_held_drew (S := (fun w' => Below wr.heap.size wr w')) (by kernel_rfl) ?_ (fun hHeld => ?_)
            · exact (Below.refl _ _).drew
            refine take_on (i := 0) (v := ?_) rfl rfl (by kernel_rfl) (by kernel_rfl) (by kernel_rfl) (fun _ _ _ h => h) rfl ?_ hHeld ?_
            rotate_left
            · (intro wq hSq; obtain ⟨q0, q1, q2, q3, q4, q5⟩ := at1.below hSq lw1; obtain ⟨r0, r1, r2, r3, r4, r5, r6⟩ := at2.below hSq lw2; go_simp <;> first | with_reducible rfl | rfl)
            simp only [Act.put, List.setIfInBounds_toArray, List.set_cons_zero, List.set_cons_succ]
            refine take_on (i := 1) (v := ?_) rfl rfl (by kernel_rfl) (by kernel_rfl) (by kernel_rfl) (fun _ _ _ h => h) rfl ?_ hHeld ?_
            rotate_left
            · (intro wq hSq; obtain ⟨q0, q1, q2, q3, q4, q5⟩ := at1.below hSq lw1; obtain ⟨r0, r1, r2, r3, r4, r5, r6⟩ := at2.below hSq lw2; go_simp <;> first | with_reducible rfl | rfl)
            simp only [Act.put, List.setIfInBounds_toArray, List.set_cons_zero, List.set_cons_succ]
            refine take_on (i := 2) (v := ?_) rfl rfl (by kernel_rfl) (by kernel_rfl) (by kernel_rfl) (fun _ _ _ h => h) rfl ?_ hHeld ?_
            rotate_left
            · (intro wq hSq; obtain ⟨q0, q1, q2, q3, q4, q5⟩ := at1.below hSq lw1; obtain ⟨r0, r1, r2, r3, r4, r5, r6⟩ := at2.below hSq lw2; go_simp <;> first | with_reducible rfl | rfl)
            simp only [Act.put, List.setIfInBounds_toArray, List.set_cons_zero, List.set_cons_succ]
            refine take_on (i := 3) (v := ?_) rfl rfl (by kernel_rfl) (by kernel_rfl) (by kernel_rfl) (fun _ _ _ h => h) rfl ?_ hHeld ?_
            rotate_left
            · (intro wq hSq; obtain ⟨q0, q1, q2, q3, q4, q5⟩ := at1.below hSq lw1; obtain ⟨r0, r1, r2, r3, r4, r5, r6⟩ := at2.below hSq lw2; go_simp <;> first | with_reducible rfl | rfl)
            simp only [Act.put, List.setIfInBounds_toArray, List.set_cons_zero, List.set_cons_succ]
            refine take_on (i := 4) (v := ?_) rfl rfl (by kernel_rfl) (by kernel_rfl) (by kernel_rfl) (fun _ _ _ h => h) rfl ?_ hHeld ?_
            rotate_left
            · (intro wq hSq; obtain ⟨q0, q1, q2, q3, q4, q5⟩ := at1.below hSq lw1; obtain ⟨r0, r1, r2, r3, r4, r5, r6⟩ := at2.below hSq lw2; go_simp <;> first | with_reducible rfl | rfl)
            simp only [Act.put, List.setIfInBounds_toArray, List.set_cons_zero, List.set_cons_succ]
            refine take_on (i := 5) (v := ?_) rfl rfl (by kernel_rfl) (by kernel_rfl) (by kernel_rfl) (fun _ _ _ h => h) rfl ?_ hHeld ?_
            rotate_left
            · (intro wq hSq; obtain ⟨q0, q1, q2, q3, q4, q5⟩ := at1.below hSq lw1; obtain ⟨r0, r1, r2, r3, r4, r5, r6⟩ := at2.below hSq lw2; go_simp <;> first | with_reducible rfl | rfl)
            simp only [Act.put, List.setIfInBounds_toArray, List.set_cons_zero, List.set_cons_succ]
            refine take_on (i := 6) (v := ?_) rfl rfl (by kernel_rfl) (by kernel_rfl) (by kernel_rfl) (fun _ _ _ h => h) rfl ?_ hHeld ?_
            rotate_left
            · (intro wq hSq; obtain ⟨q0, q1, q2, q3, q4, q5⟩ := at1.below hSq lw1; obtain ⟨r0, r1, r2, r3, r4, r5, r6⟩ := at2.below hSq lw2; go_simp <;> first | with_reducible rfl | rfl)
            simp only [Act.put, List.setIfInBounds_toArray, List.set_cons_zero, List.set_cons_succ]
            refine take_on (i := 7) (v := ?_) rfl rfl (by kernel_rfl) (by kernel_rfl) (by kernel_rfl) (fun _ _ _ h => h) rfl ?_ hHeld ?_
            rotate_left
            · (intro wq hSq; obtain ⟨q0, q1, q2, q3, q4, q5⟩ := at1.below hSq lw1; obtain ⟨r0, r1, r2, r3, r4, r5, r6⟩ := at2.below hSq lw2; go_simp <;> first | with_reducible rfl | rfl)
            simp only [Act.put, List.setIfInBounds_toArray, List.set_cons_zero, List.set_cons_succ]
            refine take_on (i := 8) (v := ?_) rfl rfl (by kernel_rfl) (by kernel_rfl) (by kernel_rfl) (fun _ _ _ h => h) rfl ?_ hHeld ?_
            rotate_left
            · (intro wq hSq; obtain ⟨q0, q1, q2, q3, q4, q5⟩ := at1.below hSq lw1; obtain ⟨r0, r1, r2, r3, r4, r5, r6⟩ := at2.below hSq lw2; go_simp <;> first | with_reducible rfl | rfl)
            simp only [Act.put, List.setIfInBounds_toArray, List.set_cons_zero, List.set_cons_succ]
            refine take_on (i := 9) (v := ?_) rfl rfl (by kernel_rfl) (by kernel_rfl) (by kernel_rfl) (fun _ _ _ h => h) rfl ?_ hHeld ?_
            rotate_left
            · (intro wq hSq; obtain ⟨q0, q1, q2, q3, q4, q5⟩ := at1.below hSq lw1; obtain ⟨r0, r1, r2, r3, r4, r5, r6⟩ := at2.below hSq lw2; go_simp <;> first | with_reducible rfl | rfl)
            simp only [Act.put, List.setIfInBounds_toArray, List.set_cons_zero, List.set_cons_succ]
            refine take_on (i := 10) (v := ?_) rfl rfl (by kernel_rfl) (by kernel_rfl) (by kernel_rfl) (fun _ _ _ h => h) rfl ?_ hHeld ?_
            rotate_left
            · (intro wq hSq; obtain ⟨q0, q1, q2, q3, q4, q5⟩ := at1.below hSq lw1; obtain ⟨r0, r1, r2, r3, r4, r5, r6⟩ := at2.below hSq lw2; go_simp <;> first | with_reducible rfl | rfl)
            simp only [Act.put, List.setIfInBounds_toArray, List.set_cons_zero, List.set_cons_succ]
            refine take_on (i := 11) (v := ?_) rfl rfl (by kernel_rfl) (by kernel_rfl) (by kernel_rfl) (fun _ _ _ h => h) rfl ?_ hHeld ?_
            rotate_left
            · (intro wq hSq; obtain ⟨q0, q1, q2, q3, q4, q5⟩ := at1.below hSq lw1; obtain ⟨r0, r1, r2, r3, r4, r5, r6⟩ := at2.below hSq lw2; go_simp <;> first | with_reducible rfl | rfl)
            simp only [Act.put, List.setIfInBounds_toArray, List.set_cons_zero, List.set_cons_succ]
            refine take_on (i := 12) (v := ?_) rfl rfl (by kernel_rfl) (by kernel_rfl) (by kernel_rfl) (fun _ _ _ h => h) rfl ?_ hHeld ?_
            rotate_left
            · (intro wq hSq; obtain ⟨q0, q1, q2, q3, q4, q5⟩ := at1.below hSq lw1; obtain ⟨r0, r1, r2, r3, r4, r5, r6⟩ := at2.below hSq lw2; go_simp <;> first | with_reducible rfl | rfl)
            simp only [Act.put, List.setIfInBounds_toArray, List.set_cons_zero, List.set_cons_succ]
            refine take_one (i := 13) rfl (by kernel_rfl) (fun K hK => ?_)
            go_simp
            refine (hit _).mono ?_; rintro e y1 ⟨rfl, hq1⟩; have hSx := hHeld.trans (hq1.mono hHeld.size); clear hq1
            try go_wp2_with fail
            refine hK.out _ _ ?_ (fun hHeld => ?_)
            · exact hSx
            clear hK K
            try simp only [Act.put, List.setIfInBounds_toArray, List.set_cons_zero, List.set_cons_succ]
            refine take_one (i := 14) rfl (by kernel_rfl) (fun K hK => ?_)
            go_simp
            refine (hsm _).mono ?_; rintro e y1 ⟨rfl, hq1⟩; have hSx := hHeld.trans (hq1.mono hHeld.size); clear hq1
            try go_wp2_with fail
            refine hK.out _ _ ?_ (fun hHeld => ?_)
            · exact hSx
            clear hK K
            try simp only [Act.put, List.setIfInBounds_toArray, List.set_cons_zero, List.set_cons_succ]
            refine take_on (i := 15) (v := ?_) rfl rfl (by kernel_rfl) (by kernel_rfl) (by kernel_rfl) (fun _ _ _ h => h) rfl ?_ hHeld ?_
            rotate_left
            · (intro wq hSq; obtain ⟨q0, q1, q2, q3, q4, q5⟩ := at1.below hSq lw1; obtain ⟨r0, r1, r2, r3, r4, r5, r6⟩ := at2.below hSq lw2; go_simp <;> first | with_reducible rfl | rfl)
            simp only [Act.put, List.setIfInBounds_toArray, List.set_cons_zero, List.set_cons_succ]
            refine take_on (i := 16) (v := ?_) rfl rfl (by kernel_rfl) (by kernel_rfl) (by kernel_rfl) (fun _ _ _ h => h) rfl ?_ hHeld ?_
            rotate_left
            · (intro wq hSq; obtain ⟨q0, q1, q2, q3, q4, q5⟩ := at1.below hSq lw1; obtain ⟨r0, r1, r2, r3, r4, r5, r6⟩ := at2.below hSq lw2; go_simp <;> first | with_reducible rfl | rfl)
            simp only [Act.put, List.setIfInBounds_toArray, List.set_cons_zero, List.set_cons_succ]
            refine take_on (i := 17) (v := ?_) rfl rfl (by kernel_rfl) (by kernel_rfl) (by kernel_rfl) (fun _ _ _ h => h) rfl ?_ hHeld ?_
            rotate_left
            · (intro wq hSq; obtain ⟨q0, q1, q2, q3, q4, q5⟩ := at1.below hSq lw1; obtain ⟨r0, r1, r2, r3, r4, r5, r6⟩ := at2.below hSq lw2; go_simp <;> first | with_reducible rfl | rfl)
            simp only [Act.put, List.setIfInBounds_toArray, List.set_cons_zero, List.set_cons_succ]
            refine take_on (i := 18) (v := ?_) rfl rfl (by kernel_rfl) (by kernel_rfl) (by kernel_rfl) (fun _ _ _ h => h) rfl ?_ hHeld ?_
            rotate_left
            · (intro wq hSq; obtain ⟨q0, q1, q2, q3, q4, q5⟩ := at1.below hSq lw1; obtain ⟨r0, r1, r2, r3, r4, r5, r6⟩ := at2.below hSq lw2; go_simp <;> first | with_reducible rfl | rfl)
            simp only [Act.put, List.setIfInBounds_toArray, List.set_cons_zero, List.set_cons_succ]
            refine take_on (i := 19) (v := ?_) rfl rfl (by kernel_rfl) (by kernel_rfl) (by kernel_rfl) (fun _ _ _ h => h) rfl ?_ hHeld ?_
            rotate_left
            · (intro wq hSq; obtain ⟨q0, q1, q2, q3, q4, q5⟩ := at1.below hSq lw1; obtain ⟨r0, r1, r2, r3, r4, r5, r6⟩ := at2.below hSq lw2; go_simp <;> first | with_reducible rfl | rfl)
            simp only [Act.put, List.setIfInBounds_toArray, List.set_cons_zero, List.set_cons_succ]
            refine take_on (i := 20) (v := ?_) rfl rfl (by kernel_rfl) (by kernel_rfl) (by kernel_rfl) (fun _ _ _ h => h) rfl ?_ hHeld ?_
            rotate_left
            · (intro wq hSq; obtain ⟨q0, q1, q2, q3, q4, q5⟩ := at1.below hSq lw1; obtain ⟨r0, r1, r2, r3, r4, r5, r6⟩ := at2.below hSq lw2; go_simp <;> first | with_reducible rfl | rfl)
            simp only [Act.put, List.setIfInBounds_toArray, List.set_cons_zero, List.set_cons_succ]
            refine take_on (i := 21) (v := ?_) rfl rfl (by kernel_rfl) (by kernel_rfl) (by kernel_rfl) (fun _ _ _ h => h) rfl ?_ hHeld ?_
            rotate_left
            · (intro wq hSq; obtain ⟨q0, q1, q2, q3, q4, q5⟩ := at1.below hSq lw1; obtain ⟨r0, r1, r2, r3, r4, r5, r6⟩ := at2.below hSq lw2; go_simp <;> first | with_reducible rfl | rfl)
            simp only [Act.put, List.setIfInBounds_toArray, List.set_cons_zero, List.set_cons_succ]
            refine take_on (i := 22) (v := ?_) rfl rfl (by kernel_rfl) (by kernel_rfl) (by kernel_rfl) (fun _ _ _ h => h) rfl ?_ hHeld ?_
            rotate_left
            · (intro wq hSq; obtain ⟨q0, q1, q2, q3, q4, q5⟩ := at1.below hSq lw1; obtain ⟨r0, r1, r2, r3, r4, r5, r6⟩ := at2.below hSq lw2; go_simp <;> first | with_reducible rfl | rfl)
            simp only [Act.put, List.setIfInBounds_toArray, List.set_cons_zero, List.set_cons_succ]
            refine take_off (i := 23) rfl rfl (by kernel_rfl) (by kernel_rfl) (by kernel_rfl) (fun _ _ _ h => h) rfl hHeld ?_
            simp only [Act.put, List.setIfInBounds_toArray, List.set_cons_zero, List.set_cons_succ]
            refine take_off (i := 24) rfl rfl (by kernel_rfl) (by kernel_rfl) (by kernel_rfl) (fun _ _ _ h => h) rfl hHeld ?_
            simp only [Act.put, List.setIfInBounds_toArray, List.set_cons_zero, List.set_cons_succ]
            refine take_off (i := 25) rfl rfl (by kernel_rfl) (by kernel_rfl) (by kernel_rfl) (fun _ _ _ h => h) rfl hHeld ?_
            simp only [Act.put, List.setIfInBounds_toArray, List.set_cons_zero, List.set_cons_succ]
            refine take_off (i := 26) rfl rfl (by kernel_rfl) (by kernel_rfl) (by kernel_rfl) (fun _ _ _ h => h) rfl hHeld ?_
            simp only [Act.put, List.setIfInBounds_toArray, List.set_cons_zero, List.set_cons_succ]
            refine take_off (i := 27) rfl rfl (by kernel_rfl) (by kernel_rfl) (by kernel_rfl) (fun _ _ _ h => h) rfl hHeld ?_
            simp only [Act.put, List.setIfInBounds_toArray, List.set_cons_zero, List.set_cons_succ]
            refine take_off (i := 28) rfl rfl (by kernel_rfl) (by kernel_rfl) (by kernel_rfl) (fun _ _ _ h => h) rfl hHeld ?_
            simp only [Act.put, List.setIfInBounds_toArray, List.set_cons_zero, List.set_cons_succ]
            refine take_off (i := 29) rfl rfl (by kernel_rfl) (by kernel_rfl) (by kernel_rfl) (fun _ _ _ h => h) rfl hHeld ?_
            simp only [Act.put, List.setIfInBounds_toArray, List.set_cons_zero, List.set_cons_succ]
            refine take_off (i := 30) rfl rfl (by kernel_rfl) (by kernel_rfl) (by kernel_rfl) (fun _ _ _ h => h) rfl hHeld ?_
            simp only [Act.put, List.setIfInBounds_toArray, List.set_cons_zero, List.set_cons_succ]
            refine take_off (i := 31) rfl rfl (by kernel_rfl) (by kernel_rfl) (by kernel_rfl) (fun _ _ _ h => h) rfl hHeld ?_
            simp only [Act.put, List.setIfInBounds_toArray, List.set_cons_zero, List.set_cons_succ]
            refine take_off (i := 32) rfl rfl (by kernel_rfl) (by kernel_rfl) (by kernel_rfl) (fun _ _ _ h => h) rfl hHeld ?_
            simp only [Act.put, List.setIfInBounds_toArray, List.set_cons_zero, List.set_cons_succ]
            refine take_on (i := 33) (v := ?_) rfl rfl (by kernel_rfl) (by kernel_rfl) (by kernel_rfl) (fun _ _ _ h => h) rfl ?_ hHeld ?_
            rotate_left
            · (intro wq hSq; obtain ⟨q0, q1, q2, q3, q4, q5⟩ := at1.below hSq lw1; obtain ⟨r0, r1, r2, r3, r4, r5, r6⟩ := at2.below hSq lw2; go_simp <;> first | with_reducible rfl | rfl)
            simp only [Act.put, List.setIfInBounds_toArray, List.set_cons_zero, List.set_cons_succ]
            refine take_on (i := 34) (v := ?_) rfl rfl (by kernel_rfl) (by kernel_rfl) (by kernel_rfl) (fun _ _ _ h => h) rfl ?_ hHeld ?_
            rotate_left
            · (intro wq hSq; obtain ⟨q0, q1, q2, q3, q4, q5⟩ := at1.below hSq lw1; obtain ⟨r0, r1, r2, r3, r4, r5, r6⟩ := at2.below hSq lw2; go_simp <;> first | with_reducible rfl | rfl)
            simp only [Act.put, List.setIfInBounds_toArray, List.set_cons_zero, List.set_cons_succ]
            refine wpAnyH_done (by kernel_rfl) ?_ _
            have HB6 := hide_it (HBL.out.trans (hHeld.mono HBL.out.size))
            have HB7 := hide_it (HBK.out.trans (hHeld.mono HBK.out.size))
            clear hHeld
            go_wp2_with fail
            go_roundw
            case rel => exact ⟨k2 + 1, by omega, by go_num, HB6, HB7⟩
            case measure => simp [intOf]; omega
          · have hd2 : ¬ (k2 : Int) < (L : Int) := by omega
            have hd3 : (L : Int) ≤ (k2 : Int) := by omega
            have hd4 : L ≤ k2 := by omega
            have hw2 : IntKind.i64.wrap ((k2 : Int) - (L : Int)) = (k2 : Int) - (L : Int) := (by simp [IntKind.wrap, IntKind.bits, IntKind.signed]; omega)
            have him : ∀ w, Calls Try.prog 11 #[valI (mark (k2 - L)), .int .i64 ((k2 : Int) - (L : Int))] w fun e w' => e = .returned (.bool true) ∧ Below w.heap.size w w' := fun w => by
              have := isMark_any (k2 - L) w (by omega)
              rwa [show ((k2 - L : Nat) : Int) = (k2 : Int) - (L : Int) by omega] at this
            rw [List.getElem_append_right (by rw [← HL.out]; exact hd4), marks_at] at at1
            have hke : k2 - xs.length = k2 - L := by rw [HL.out]
            rw [hke] at at1
            generalize mark (k2 - L) = x at *
            clear hke
            go_wp2_with fail
            refine wp_region_held_drew (S := (fun w' => Below wr.heap.size wr w')) (by kernel_rfl) ?_ (fun hHeld => ?_)
            · exact (Below.refl _ _).drew
            refine take_on (i := 0) (v := ?_) rfl rfl (by kernel_rfl) (by kernel_rfl) (by kernel_rfl) (fun _ _ _ h => h) rfl ?_ hHeld ?_
            rotate_left
            · (intro wq hSq; obtain ⟨q0, q1, q2, q3, q4, q5⟩ := at1.below hSq lw1; go_simp <;> first | with_reducible rfl | rfl)
            simp only [Act.put, List.setIfInBounds_toArray, List.set_cons_zero, List.set_cons_succ]
            refine take_on (i := 1) (v := ?_) rfl rfl (by kernel_rfl) (by kernel_rfl) (by kernel_rfl) (fun _ _ _ h => h) rfl ?_ hHeld ?_
            rotate_left
            · (intro wq hSq; obtain ⟨q0, q1, q2, q3, q4, q5⟩ := at1.below hSq lw1; go_simp <;> first | with_reducible rfl | rfl)
            simp only [Act.put, List.setIfInBounds_toArray, List.set_cons_zero, List.set_cons_succ]
            refine take_on (i := 2) (v := ?_) rfl rfl (by kernel_rfl) (by kernel_rfl) (by kernel_rfl) (fun _ _ _ h => h) rfl ?_ hHeld ?_
            rotate_left
            · (intro wq hSq; obtain ⟨q0, q1, q2, q3, q4, q5⟩ := at1.below hSq lw1; go_simp <;> first | with_reducible rfl | rfl)
            simp only [Act.put, List.setIfInBounds_toArray, List.set_cons_zero, List.set_cons_succ]
            refine take_on (i := 3) (v := ?_) rfl rfl (by kernel_rfl) (by kernel_rfl) (by kernel_rfl) (fun _ _ _ h => h) rfl ?_ hHeld ?_
            rotate_left
            · (intro wq hSq; obtain ⟨q0, q1, q2, q3, q4, q5⟩ := at1.below hSq lw1; go_simp <;> first | with_reducible rfl | rfl)
            simp only [Act.put, List.setIfInBounds_toArray, List.set_cons_zero, List.set_cons_succ]
            refine take_on (i := 4) (v := ?_) rfl rfl (by kernel_rfl) (by kernel_rfl) (by kernel_rfl) (fun _ _ _ h => h) rfl ?_ hHeld ?_
            rotate_left
            · (intro wq hSq; obtain ⟨q0, q1, q2, q3, q4, q5⟩ := at1.below hSq lw1; go_simp <;> first | with_reducible rfl | rfl)
            simp only [Act.put, List.setIfInBounds_toArray, List.set_cons_zero, List.set_cons_succ]
            refine take_off (i := 5) rfl rfl (by kernel_rfl) (by kernel_rfl) (by kernel_rfl) (fun _ _ _ h => h) rfl hHeld ?_
            simp only [Act.put, List.setIfInBounds_toArray, List.set_cons_zero, List.set_cons_succ]
            refine take_off (i := 6) rfl rfl (by kernel_rfl) (by kernel_rfl) (by kernel_rfl) (fun _ _ _ h => h) rfl hHeld ?_
            simp only [Act.put, List.setIfInBounds_toArray, List.set_cons_zero, List.set_cons_succ]
            refine take_off (i := 7) rfl rfl (by kernel_rfl) (by kernel_rfl) (by kernel_rfl) (fun _ _ _ h => h) rfl hHeld ?_
            simp only [Act.put, List.setIfInBounds_toArray, List.set_cons_zero, List.set_cons_succ]
            refine take_off (i := 8) rfl rfl (by kernel_rfl) (by kernel_rfl) (by kernel_rfl) (fun _ _ _ h => h) rfl hHeld ?_
            simp only [Act.put, List.setIfInBounds_toArray, List.set_cons_zero, List.set_cons_succ]
            refine take_off (i := 9) rfl rfl (by kernel_rfl) (by kernel_rfl) (by kernel_rfl) (fun _ _ _ h => h) rfl hHeld ?_
            simp only [Act.put, List.setIfInBounds_toArray, List.set_cons_zero, List.set_cons_succ]
            refine take_off (i := 10) rfl rfl (by kernel_rfl) (by kernel_rfl) (by kernel_rfl) (fun _ _ _ h => h) rfl hHeld ?_
            simp only [Act.put, List.setIfInBounds_toArray, List.set_cons_zero, List.set_cons_succ]
            refine take_off (i := 11) rfl rfl (by kernel_rfl) (by kernel_rfl) (by kernel_rfl) (fun _ _ _ h => h) rfl hHeld ?_
            simp only [Act.put, List.setIfInBounds_toArray, List.set_cons_zero, List.set_cons_succ]
            refine take_off (i := 12) rfl rfl (by kernel_rfl) (by kernel_rfl) (by kernel_rfl) (fun _ _ _ h => h) rfl hHeld ?_
            simp only [Act.put, List.setIfInBounds_toArray, List.set_cons_zero, List.set_cons_succ]
            refine take_off (i := 13) rfl rfl (by kernel_rfl) (by kernel_rfl) (by kernel_rfl) (fun _ _ _ h => h) rfl hHeld ?_
            simp only [Act.put, List.setIfInBounds_toArray, List.set_cons_zero, List.set_cons_succ]
            refine take_off (i := 14) rfl rfl (by kernel_rfl) (by kernel_rfl) (by kernel_rfl) (fun _ _ _ h => h) rfl hHeld ?_
            simp only [Act.put, List.setIfInBounds_toArray, List.set_cons_zero, List.set_cons_succ]
            refine take_off (i := 15) rfl rfl (by kernel_rfl) (by kernel_rfl) (by kernel_rfl) (fun _ _ _ h => h) rfl hHeld ?_
            simp only [Act.put, List.setIfInBounds_toArray, List.set_cons_zero, List.set_cons_succ]
            refine take_on (i := 16) (v := ?_) rfl rfl (by kernel_rfl) (by kernel_rfl) (by kernel_rfl) (fun _ _ _ h => h) rfl ?_ hHeld ?_
            rotate_left
            · (intro wq hSq; obtain ⟨q0, q1, q2, q3, q4, q5⟩ := at1.below hSq lw1; go_simp <;> first | with_reducible rfl | rfl)
            simp only [Act.put, List.setIfInBounds_toArray, List.set_cons_zero, List.set_cons_succ]
            refine take_on (i := 17) (v := ?_) rfl rfl (by kernel_rfl) (by kernel_rfl) (by kernel_rfl) (fun _ _ _ h => h) rfl ?_ hHeld ?_
            rotate_left
            · (intro wq hSq; obtain ⟨q0, q1, q2, q3, q4, q5⟩ := at1.below hSq lw1; go_simp <;> first | with_reducible rfl | rfl)
            simp only [Act.put, List.setIfInBounds_toArray, List.set_cons_zero, List.set_cons_succ]
            refine take_on (i := 18) (v := ?_) rfl rfl (by kernel_rfl) (by kernel_rfl) (by kernel_rfl) (fun _ _ _ h => h) rfl ?_ hHeld ?_
            rotate_left
            · (intro wq hSq; obtain ⟨q0, q1, q2, q3, q4, q5⟩ := at1.below hSq lw1; go_simp <;> first | with_reducible rfl | rfl)
            simp only [Act.put, List.setIfInBounds_toArray, List.set_cons_zero, List.set_cons_succ]
            refine take_on (i := 19) (v := ?_) rfl rfl (by kernel_rfl) (by kernel_rfl) (by kernel_rfl) (fun _ _ _ h => h) rfl ?_ hHeld ?_
            rotate_left
            · (intro wq hSq; obtain ⟨q0, q1, q2, q3, q4, q5⟩ := at1.below hSq lw1; go_simp <;> first | with_reducible rfl | rfl)
            simp only [Act.put, List.setIfInBounds_toArray, List.set_cons_zero, List.set_cons_succ]
            refine take_on (i := 20) (v := ?_) rfl rfl (by kernel_rfl) (by kernel_rfl) (by kernel_rfl) (fun _ _ _ h => h) rfl ?_ hHeld ?_
            rotate_left
            · (intro wq hSq; obtain ⟨q0, q1, q2, q3, q4, q5⟩ := at1.below hSq lw1; go_simp <;> first | with_reducible rfl | rfl)
            simp only [Act.put, List.setIfInBounds_toArray, List.set_cons_zero, List.set_cons_succ]
            refine take_on (i := 21) (v := ?_) rfl rfl (by kernel_rfl) (by kernel_rfl) (by kernel_rfl) (fun _ _ _ h => h) rfl ?_ hHeld ?_
            rotate_left
            · (intro wq hSq; obtain ⟨q0, q1, q2, q3, q4, q5⟩ := at1.below hSq lw1; go_simp <;> first | with_reducible rfl | rfl)
            simp only [Act.put, List.setIfInBounds_toArray, List.set_cons_zero, List.set_cons_succ]
            refine take_on (i := 22) (v := ?_) rfl rfl (by kernel_rfl) (by kernel_rfl) (by kernel_rfl) (fun _ _ _ h => h) rfl ?_ hHeld ?_
            rotate_left
            · (intro wq hSq; obtain ⟨q0, q1, q2, q3, q4, q5⟩ := at1.below hSq lw1; go_simp <;> first | with_reducible rfl | rfl)
            simp only [Act.put, List.setIfInBounds_toArray, List.set_cons_zero, List.set_cons_succ]
            refine take_on (i := 23) (v := ?_) rfl rfl (by kernel_rfl) (by kernel_rfl) (by kernel_rfl) (fun _ _ _ h => h) rfl ?_ hHeld ?_
            rotate_left
            · (intro wq hSq; obtain ⟨q0, q1, q2, q3, q4, q5⟩ := at1.below hSq lw1; go_simp <;> first | with_reducible rfl | rfl)
            simp only [Act.put, List.setIfInBounds_toArray, List.set_cons_zero, List.set_cons_succ]
            refine take_on (i := 24) (v := ?_) rfl rfl (by kernel_rfl) (by kernel_rfl) (by kernel_rfl) (fun _ _ _ h => h) rfl ?_ hHeld ?_
            rotate_left
            · (intro wq hSq; obtain ⟨q0, q1, q2, q3, q4, q5⟩ := at1.below hSq lw1; go_simp <;> first | with_reducible rfl | rfl)
            simp only [Act.put, List.setIfInBounds_toArray, List.set_cons_zero, List.set_cons_succ]
            refine take_on (i := 25) (v := ?_) rfl rfl (by kernel_rfl) (by kernel_rfl) (by kernel_rfl) (fun _ _ _ h => h) rfl ?_ hHeld ?_
            rotate_left
            · (intro wq hSq; obtain ⟨q0, q1, q2, q3, q4, q5⟩ := at1.below hSq lw1; go_simp <;> first | with_reducible rfl | rfl)
            simp only [Act.put, List.setIfInBounds_toArray, List.set_cons_zero, List.set_cons_succ]
            refine take_on (i := 26) (v := ?_) rfl rfl (by kernel_rfl) (by kernel_rfl) (by kernel_rfl) (fun _ _ _ h => h) rfl ?_ hHeld ?_
            rotate_left
            · (intro wq hSq; obtain ⟨q0, q1, q2, q3, q4, q5⟩ := at1.below hSq lw1; go_simp <;> first | with_reducible rfl | rfl)
            simp only [Act.put, List.setIfInBounds_toArray, List.set_cons_zero, List.set_cons_succ]
            refine take_on (i := 27) (v := ?_) rfl rfl (by kernel_rfl) (by kernel_rfl) (by kernel_rfl) (fun _ _ _ h => h) rfl ?_ hHeld ?_
            rotate_left
            · (intro wq hSq; obtain ⟨q0, q1, q2, q3, q4, q5⟩ := at1.below hSq lw1; go_simp <;> first | with_reducible rfl | rfl)
            simp only [Act.put, List.setIfInBounds_toArray, List.set_cons_zero, List.set_cons_succ]
            refine take_on (i := 28) (v := ?_) rfl rfl (by kernel_rfl) (by kernel_rfl) (by kernel_rfl) (fun _ _ _ h => h) rfl ?_ hHeld ?_
            rotate_left
            · (intro wq hSq; obtain ⟨q0, q1, q2, q3, q4, q5⟩ := at1.below hSq lw1; go_simp <;> first | with_reducible rfl | rfl)
            simp only [Act.put, List.setIfInBounds_toArray, List.set_cons_zero, List.set_cons_succ]
            refine take_on (i := 29) (v := ?_) rfl rfl (by kernel_rfl) (by kernel_rfl) (by kernel_rfl) (fun _ _ _ h => h) rfl ?_ hHeld ?_
            rotate_left
            · (intro wq hSq; obtain ⟨q0, q1, q2, q3, q4, q5⟩ := at1.below hSq lw1; go_simp <;> first | with_reducible rfl | rfl)
            simp only [Act.put, List.setIfInBounds_toArray, List.set_cons_zero, List.set_cons_succ]
            refine take_on (i := 30) (v := ?_) rfl rfl (by kernel_rfl) (by kernel_rfl) (by kernel_rfl) (fun _ _ _ h => h) rfl ?_ hHeld ?_
            rotate_left
            · (intro wq hSq; obtain ⟨q0, q1, q2, q3, q4, q5⟩ := at1.below hSq lw1; go_simp <;> first | with_reducible rfl | rfl)
            simp only [Act.put, List.setIfInBounds_toArray, List.set_cons_zero, List.set_cons_succ]
            refine take_one (i := 31) rfl (by kernel_rfl) (fun K hK => ?_)
            go_simp
            refine (him _).mono ?_; rintro e y1 ⟨rfl, hq1⟩; have hSx := hHeld.trans (hq1.mono hHeld.size); clear hq1
            try go_wp2_with fail
            refine hK.out _ _ ?_ (fun hHeld => ?_)
            · exact hSx
            clear hK K
            try simp only [Act.put, List.setIfInBounds_toArray, List.set_cons_zero, List.set_cons_succ]
            refine take_on (i := 32) (v := ?_) rfl rfl (by kernel_rfl) (by kernel_rfl) (by kernel_rfl) (fun _ _ _ h => h) rfl ?_ hHeld ?_
            rotate_left
            · (intro wq hSq; obtain ⟨q0, q1, q2, q3, q4, q5⟩ := at1.below hSq lw1; go_simp <;> first | with_reducible rfl | rfl)
            simp only [Act.put, List.setIfInBounds_toArray, List.set_cons_zero, List.set_cons_succ]
            refine take_on (i := 33) (v := ?_) rfl rfl (by kernel_rfl) (by kernel_rfl) (by kernel_rfl) (fun _ _ _ h => h) rfl ?_ hHeld ?_
            rotate_left
            · (intro wq hSq; obtain ⟨q0, q1, q2, q3, q4, q5⟩ := at1.below hSq lw1; go_simp <;> first | with_reducible rfl | rfl)
            simp only [Act.put, List.setIfInBounds_toArray, List.set_cons_zero, List.set_cons_succ]
            refine take_on (i := 34) (v := ?_) rfl rfl (by kernel_rfl) (by kernel_rfl) (by kernel_rfl) (fun _ _ _ h => h) rfl ?_ hHeld ?_
            rotate_left
            · (intro wq hSq; obtain ⟨q0, q1, q2, q3, q4, q5⟩ := at1.below hSq lw1; go_simp <;> first | with_reducible rfl | rfl)
            simp only [Act.put, List.setIfInBounds_toArray, List.set_cons_zero, List.set_cons_succ]
            refine wpAnyH_done (by kernel_rfl) ?_ _
            have HB6 := hide_it (HBL.out.trans (hHeld.mono HBL.out.size))
            have HB7 := hide_it (HBK.out.trans (hHeld.mono HBK.out.size))
            clear hHeld
            go_wp2_with fail
            go_roundw
            case rel => exact ⟨k2 + 1, by omega, by go_num, HB6, HB7⟩
            case measure => simp [intOf]; omega
        · have hki2 : ¬ (k2 : Int) < (N : Int) := by omega
          have hrd := rdecode_any s wr (by omega)
          have hfew := dec_few _ (strNat_all s)
          obtain ⟨ys, hys⟩ : ∃ ys, ys = (decRes (strNat s)).1 := ⟨_, rfl⟩
          obtain ⟨er, her⟩ : ∃ er, er = (decRes (strNat s)).2 := ⟨_, rfl⟩
          have hdc : ∀ w', Calls Try.prog 13 #[.string s] w' fun e w1 => ∃ v, e = .returned (.tuple #[v, .int .i64 er]) ∧ OwnI w1 w'.heap.size v ys ∧ Below w'.heap.size w' w1 := fun w' => by rw [hys, her]; exact decode_any s w' (by omega)
          have hdt := fun w' => decode_any t w' (by omega)
          rw [← hys, ← her] at hrd
          rw [← hys] at hfew
          clear hys her HBK HR5 HBW5 HN HOK HIT HX
          have hbsr := HBL.out.size
          go_wp2_with fail
          refine hrd.mono ?_
          rintro e w6 ⟨vw, rfl, how6, hb6⟩
          obtain ⟨aw, cw, hvw, _⟩ := how6.row
          obtain ⟨M, hM⟩ : ∃ M, M = ys.length := ⟨_, rfl⟩
          rw [← hM] at hvw hfew
          subst hvw
          have HM := hide_it hM
          have HW6 := hide_it how6
          have HB6 := hide_it (HBL.out.trans (hb6.mono hbsr))
          have hbs6 : w.heap.size ≤ w6.heap.size := HB6.out.size
          clear how6 hb6 hrd hM HBL
          have hda := hdc w6
          go_wp2_with fail
          refine hda.mono ?_
          rintro e w7 ⟨va, rfl, hoa7, hb7⟩
          obtain ⟨aa, ka, hva, _⟩ := hoa7.row
          rw [← HM.out] at hva
          subst hva
          have HX7 := hide_it (show OwnX w7 w6.heap.size (.slice aa M ka) M by rw [HM.out]; have := hoa7.any; rwa [HM.out] at this)
          have HW7 := hide_it (HW6.out.below hb7)
          have HB7 := hide_it (HB6.out.trans (hb7.mono HB6.out.size))
          have HP1 : Hid (∀ j, (Value.slice aw M cw).ownBlock = some j → (Value.slice aa M ka).ownBlock ≠ some j) := hide_it (fun j e e2 => by have h1 := (HW6.out.lt j e).2; have h2 := hoa7.ge e2; omega)
          have hbs7 := hb7.size
          clear hoa7 hb7 hda HW6 HB6
          have hda := hdc w7
          go_wp2_with fail
          refine hda.mono ?_
          rintro e w8 ⟨vb, rfl, hob8, hb8⟩
          obtain ⟨ab, kb, hvb, _⟩ := hob8.row
          rw [← HM.out] at hvb
          subst hvb
          have HP2 : Hid (∀ j, (Value.slice ab M kb).ownBlock = some j → (Value.slice aa M ka).ownBlock ≠ some j) := hide_it (fun j e e2 => by have h1 := HX7.out.inside j e2; have h2 := hob8.ge e; omega)
          have HX8 := hide_it (HX7.out.below hb8)
          have HW8 := hide_it (HW7.out.below hb8)
          have HB8 := hide_it (HB7.out.trans (hb8.mono HB7.out.size))
          have HO8 := hide_it hob8
          have hbs8 := hb8.size
          clear hob8 hb8 hda HW7 HB7 HX7
          go_wp2_with fail
          go_loopw [17] (fun i wr => ∃ k : Nat, k ≤ M ∧ i = .int .i64 (k : Int) ∧ Hid (OwnX wr w6.heap.size (.slice aa M ka) M) ∧ Hid (OwnI wr w7.heap.size (.slice ab M kb) ys) ∧ Hid (∃ base, OwnD wr base (.slice aw M cw) ys) ∧ Hid (Below w.heap.size w wr) ∧ w8.heap.size ≤ wr.heap.size) (fun i _ => M - (intOf i).toNat)
          case atStart => exact ⟨0, by omega, rfl, HX8, HO8, ⟨_, HW8.out⟩, HB8, Nat.le_refl _⟩
          case round =>
            obtain ⟨k3, hk3, rfl, GX, GO, GW, GB, hgs⟩ := hrel
            clear HX8 HO8 HW8 HB8
            by_cases hlt3 : k3 < M
            · have hki3 : (k3 : Int) < (M : Int) := by omega
              have hw1 : IntKind.i64.wrap ((k3 : Int) + 1) = (k3 : Int) + 1 := (by simp [IntKind.wrap, IntKind.bits, IntKind.signed]; omega)
              have hw2 : IntKind.i64.wrap (140 + (k3 : Int)) = 140 + (k3 : Int) := (by simp [IntKind.wrap, IntKind.bits, IntKind.signed]; omega)
              obtain ⟨g, cg, eg, hgb, hgl, _⟩ := GX.out.row (by omega)
              injection eg with eg1 eg2 eg3
              subst eg1
              have hmk : Calls Try.prog 6 #[.int .i64 (140 + (k3 : Int))] wr fun e w' => e = .returned (valI (mark (140 + k3))) ∧ Below wr.heap.size wr w' := by
                have := marked_any (140 + k3) wr (by omega)
                rwa [show ((140 + k3 : Nat) : Int) = 140 + (k3 : Int) by omega] at this
              generalize mark (140 + k3) = y at hmk
              clear eg2 eg3
              go_wp2_with fail
              refine hmk.mono ?_
              rintro e w9 ⟨rfl, hb9⟩
              have hx9 := GX.out.below hb9
              have HO9 := hide_it (GO.out.below hb9)
              have HW9 : Hid (∃ base, OwnD w9 base (.slice aw M cw) ys) := hide_it (by obtain ⟨b0, h0⟩ := GW.out; exact ⟨b0, h0.below hb9⟩)
              have HB9 := hide_it (GB.out.trans (hb9.mono GB.out.size))
              have hgs9 := hb9.size
              obtain ⟨⟨u0, p0⟩, z0⟩ := hx9.there (m := k3 * 6) (by omega)
              obtain ⟨⟨u1, p1⟩, z1⟩ := hx9.there (m := k3 * 6 + 1) (by omega)
              obtain ⟨⟨u2, p2⟩, z2⟩ := hx9.there (m := k3 * 6 + 2) (by omega)
              obtain ⟨⟨u3, p3⟩, z3⟩ := hx9.there (m := k3 * 6 + 3) (by omega)
              obtain ⟨⟨u4', p4⟩, z4⟩ := hx9.there (m := k3 * 6 + 4) (by omega)
              obtain ⟨⟨u5', p5⟩, z5⟩ := hx9.there (m := k3 * 6 + 5) (by omega)
              have HX9 := hide_it hx9
              clear hx9 hb9 hmk GX GO GW GB
              go_wp2_with fail
              go_roundw
              case rel =>
                have hG : ∀ v0 v1 v2 v3 v4 v5 : Value, w9.grownBy ((((((w9.setCell ⟨g, k3 * 6, none⟩ v0).setCell ⟨g, k3 * 6 + 1, none⟩ v1).setCell ⟨g, k3 * 6 + 2, none⟩ v2).setCell ⟨g, k3 * 6 + 3, none⟩ v3).setCell ⟨g, k3 * 6 + 4, none⟩ v4).setCell ⟨g, k3 * 6 + 5, none⟩ v5) (some g) := fun v0 v1 v2 v3 v4 v5 => grown_cell (grown_cell (grown_cell (grown_cell (grown_cell (grown_cell (grown_refl _ _) _ _) _ _) _ _) _ _) _ _) _ _
                refine ⟨k3 + 1, by omega, by go_num, (((((HX9.out.set _ _).set _ _).set _ _).set _ _).set _ _).set _ _, HO9.out.keep (hG _ _ _ _ _ _) (fun j e => HP2.out j e), (by obtain ⟨b0, h0⟩ := HW9.out; exact ⟨b0, h0.keep (hG _ _ _ _ _ _) (fun j e => HP1.out j e)⟩), ?_, ?_⟩
                · have hgw : w.heap.size ≤ g := by omega
                  exact (((((HB9.out.setCell hgw _).setCell hgw _).setCell hgw _).setCell hgw _).setCell hgw _).setCell hgw _
                · simp; omega
              case measure => simp [intOf]; omega
            · have hki3 : ¬ (k3 : Int) < (M : Int) := by omega
              go_wp2_with fail
              go_loopw [13, 18] (fun v i wr => ∃ k : Nat, k ≤ 70 ∧ i = .int .i64 (k : Int) ∧ Hid (OwnX wr w6.heap.size v (M + k)) ∧ Hid (OwnI wr w7.heap.size (.slice ab M kb) ys) ∧ Hid (∃ base, OwnD wr base (.slice aw M cw) ys) ∧ Hid ((∀ j, (Value.slice ab M kb).ownBlock = some j → v.ownBlock ≠ some j) ∧ (∀ j, (Value.slice aw M cw).ownBlock = some j → v.ownBlock ≠ some j)) ∧ Hid (Below w.heap.size w wr) ∧ w8.heap.size ≤ wr.heap.size) (fun _ i _ => 70 - (intOf i).toNat)
              case atStart => exact ⟨0, by omega, rfl, GX, GO, GW, ⟨HP2.out, HP1.out⟩, GB, hgs⟩
              case round =>
                obtain ⟨k4, hk4, rfl, KX, KO, KW, KP, KB, hks⟩ := hrel
                clear GX GO GW GB HP1 HP2 hgs
                by_cases hlt4 : k4 < 70
                · have hki4 : (k4 : Int) < 70 := by omega
                  have hw1 : IntKind.i64.wrap ((k4 : Int) + 1) = (k4 : Int) + 1 := (by simp [IntKind.wrap, IntKind.bits, IntKind.signed]; omega)
                  have hw2 : IntKind.i64.wrap (70 + (k4 : Int)) = 70 + (k4 : Int) := (by simp [IntKind.wrap, IntKind.bits, IntKind.signed]; omega)
                  have hmk : Calls Try.prog 6 #[.int .i64 (70 + (k4 : Int))] wr fun e w' => e = .returned (valI (mark (70 + k4))) ∧ Below wr.heap.size wr w' := by
                    have := marked_any (70 + k4) wr (by omega)
                    rwa [show ((70 + k4 : Nat) : Int) = 70 + (k4 : Int) by omega] at this
                  generalize mark (70 + k4) = y at hmk
                  go_wp2_with fail
                  refine hmk.mono ?_
                  rintro e w9 ⟨rfl, hb9⟩
                  have HX9 := hide_it (KX.out.below hb9)
                  have HO9 := hide_it (KO.out.below hb9)
                  have HW9 : Hid (∃ base, OwnD w9 base (.slice aw M cw) ys) := hide_it (by obtain ⟨b0, h0⟩ := KW.out; exact ⟨b0, h0.below hb9⟩)
                  have HB9 := hide_it (KB.out.trans (hb9.mono KB.out.size))
                  have hgs9 := hb9.size
                  have hb69 : w6.heap.size ≤ w9.heap.size := by omega
                  clear hb9 hmk KX KO KW KB
                  go_wp2_with (at_builtin; refine wpList_append_any _ rfl _ _ rfl w6.heap.size _ (M + k4) rfl HX9.out y (by first | rfl | (show Value.slice (some ⟨_, 0, none⟩) 1 1 = _; simp)) (by omega) hb69 ?_; intro v4 w4 hown4 hg4 hat4; have HO4 := hide_it hown4; have HG4 := hide_it hg4; have HA4 := hide_it hat4; clear hown4 hg4 hat4)
                  have hq4 := HG4.out.size
                  go_roundw
                  case rel =>
                    have hal := (Below.refl w9.heap.size w9).alloc (Nat.le_refl _) (.cells #[.int .i64 y.k, .bool y.b, .int .i64 y.n, .float .f64 y.f, .complex .f64 y.r y.i, .string y.t] 29)
                    have hoB := (HO9.out.below hal).keep HG4.out (fun j e => KP.out.1 j e)
                    have hin := HO9.out.inside
                    obtain ⟨bw, hwB⟩ := HW9.out
                    have hwC := (hwB.below hal).keep HG4.out (fun j e => KP.out.2 j e)
                    have hbA : Below w.heap.size w w4 := (HB9.out.alloc HB9.out.size _).grown HG4.out (by have := HB9.out.size; simp; omega) (fun j e => by have := HX9.out.ge e; omega)
                    refine ⟨k4 + 1, by omega, by go_num, HO4, hoB, ⟨bw, hwC⟩, ⟨fun j e => ?_, fun j e => ?_⟩, hbA, by simp at hq4; omega⟩
                    · rcases HA4.out with h | h
                      · rw [h]; exact KP.out.1 j e
                      · rw [h]; have := hin j e; simp; omega
                    · rcases HA4.out with h | h
                      · rw [h]; exact KP.out.2 j e
                      · rw [h]; have := (hwB.lt j e).2; simp; omega
                  case measure => simp [intOf]; omega
                · have hki4 : ¬ (k4 : Int) < 70 := by omega
                  have hal : ∀ (b0 : Option Addr) (cb : Nat) w', RowI w' b0 ys → RowR w' aw ys → Calls Try.prog 14 #[.slice b0 M cb, .slice aw M cw] w' fun e w1 => e = .returned (.bool true) ∧ Below w'.heap.size w' w1 := fun b0 cb w' h1 h2 => by
                    have := allAlike_same b0 aw cb cw ys w' h1 h2 (by rw [← HM.out]; omega)
                    rwa [← HM.out] at this
                  have HRB := hide_it (rowAtI KO.out)
                  have HRW : Hid (RowR wr aw ys) := hide_it (by obtain ⟨b0, h0⟩ := KW.out; exact rowAtD h0)
                  have hal1 := hal ab kb wr HRB.out HRW.out
                  clear KX KO KW KP
                  go_wp2_with fail
                  refine hal1.mono ?_
                  rintro e y1 ⟨rfl, hq1⟩
                  have HRB1 := hide_it (HRB.out.below hq1)
                  have HRW1 := hide_it (HRW.out.below hq1)
                  have HBy1 := hide_it (KB.out.trans (hq1.mono KB.out.size))
                  have hdc1 := hdc y1
                  clear hq1 HRB HRW KB hal1
                  go_wp2_with fail
                  refine hdc1.mono ?_
                  rintro e y2 ⟨vc, rfl, hoc, hq2⟩
                  obtain ⟨ac, kc, hvc, _⟩ := hoc.row
                  rw [← HM.out] at hvc
                  subst hvc
                  have HRC2 := hide_it (rowAtI hoc)
                  have HRB2 := hide_it (HRB1.out.below hq2)
                  have HRW2 := hide_it (HRW1.out.below hq2)
                  have HBy2 := hide_it (HBy1.out.trans (hq2.mono HBy1.out.size))
                  have hdt2 := hdt y2
                  clear hq2 hoc HRB1 HRW1 HBy1 hdc1
                  go_wp2_with fail
                  refine hdt2.mono ?_
                  rintro e y3 ⟨vt, rfl, _, hq3⟩
                  have HRC3 := hide_it (HRC2.out.below hq3)
                  have HRB3 := hide_it (HRB2.out.below hq3)
                  have HRW3 := hide_it (HRW2.out.below hq3)
                  have HBy3 := hide_it (HBy2.out.trans (hq3.mono HBy2.out.size))
                  have hal3 := hal ac kc y3 HRC3.out HRW3.out
                  clear hq3 HRC2 HRB2 HRW2 HBy2 hdt2
                  go_wp2_with fail
                  refine hal3.mono ?_
                  rintro e y4 ⟨rfl, hq4⟩
                  have hal4 := hal ab kb y4 (HRB3.out.below hq4) (HRW3.out.below hq4)
                  have HBy4 := hide_it (HBy3.out.trans (hq4.mono HBy3.out.size))
                  clear hq4 hal3
                  go_wp2_with fail
                  refine hal4.mono ?_
                  rintro e y5 ⟨rfl, hq5⟩
                  have HBy5 := hide_it (HBy4.out.trans (hq5.mono HBy4.out.size))
                  clear hq5 hal4
                  go_wp2_with fail
                  go_ret
                  exact ⟨rfl, HBy5.out⟩

end Go.Proofs.Ytelcfmjhbjnkoaa.orderKeeps
