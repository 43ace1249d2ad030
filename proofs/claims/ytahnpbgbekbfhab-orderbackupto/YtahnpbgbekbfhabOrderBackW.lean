/- There and back, both ways: the law's walk. -/
import Derived.Test.YtahnpbgbekbfhabAl1
namespace Go.Proofs.Ytahnpbgbekbfhab.orderBack
open Go.RowKit

attribute [local go_sem] st_float st_complex fromBits toBits

theorem esc_ge (l : List Nat) : l.length ≤ (esc l).length := by
  induction l with
  | nil => simp [esc]
  | cons z l ih =>
    rw [esc_cons, List.length_append, List.length_cons]
    have : 1 ≤ (if z = 0 then [0, 255] else [z] : List Nat).length := by split <;> simp
    omega
theorem text_le {x : It} (h : may x = true) : x.t.size ≤ (encI x).length := by
  obtain ⟨_, _, _, _, h6⟩ := may_out h
  rcases h6 with h6 | h6
  · unfold encI body
    simp only [h6]
    have := esc_ge (strNat x.t)
    rw [strNat_len] at this
    simp
    omega
  · rw [h6]; simp
theorem text_le_all {xs : List It} (h : ∀ x ∈ xs, may x = true) : ∀ x ∈ xs, x.t.size ≤ (encAll xs).length := by
  induction xs with
  | nil => intro x hx; cases hx
  | cons y ys ih =>
    intro x hx
    rw [encAll_cons, List.length_append]
    rcases List.mem_cons.1 hx with rfl | hx
    · have := text_le (h x List.mem_cons_self); omega
    · have := ih (fun z hz => h z (List.mem_cons_of_mem _ hz)) x hx; omega

theorem dec_enc {xs : List It} (hl : xs.length ≤ 64) (h : ∀ x ∈ xs, ItOk x ∧ may x = true) : decRes (encAll xs) = (xs.map clean, 0) := by
  unfold decRes
  rw [decF_back 64 xs hl h]

set_option maxRecDepth 100000 in
set_option maxHeartbeats 2000000 in
theorem walk (a : Option Addr) (ca : Nat) (xs : List It) (s : ByteArray) (w : World) (hra : RowR w a xs) (hla : xs.length ≤ 1048576) (hoa : ∀ x ∈ xs, ItOk x ∧ x.t.size ≤ 1048576) (hs : s.size ≤ 1048576) :
    Calls Try.prog 5 #[.slice a xs.length ca, .string s] w fun e w' => e = .returned (.bool true) ∧ Below w.heap.size w w' := by
  have hokx : AllOk xs := fun x hx => ⟨(hoa x hx).1, by have := (hoa x hx).2; omega⟩
  have HX := hide_it hra
  have HOX := hide_it hokx
  clear hra hoa hokx
  have hDs := fun w => decode_any s w (by omega)
  go_enter Try.func5, Try.ntmps5
  go_wp2_with fail
  refine (awake_any _).mono ?_
  rintro e w1 ⟨rfl, hb1⟩
  go_wp2_with fail
  refine (items_any a ca xs w1 (HX.out.below hb1) (by omega)).mono ?_
  rintro e w2 ⟨⟨v2, rfl, hown2⟩, hc2⟩
  have hb2 := hb1.trans (hc2.mono hb1.size)
  clear hb1 hc2
  go_wp2_with fail
  refine (enc_own hown2 HOX.out (by omega)).mono ?_
  rintro e w3 ⟨rfl, hc3⟩
  have hb3 := hb2.trans (hc3.mono hb2.size)
  clear hb2 hc3 hown2
  rcases enc_cases xs with ⟨c, hc, hex, _⟩ | ⟨hex, hl64, hmx⟩
  · rw [hex]
    have hcb : (c == 0) = false := by simpa using hc
    go_wp2_with fail
    refine (hDs _).mono ?_
    rintro e w9 ⟨v9, rfl, hown9, hc9⟩
    have hb9 := hb3.trans (hc9.mono hb3.size)
    clear hc9
    cases hd : decF 64 (strNat s) with
    | none =>
      have hr : decRes (strNat s) = ([], 41) := by unfold decRes; rw [hd]
      rw [hr] at hown9 ⊢
      simp only at hown9 ⊢
      obtain ⟨a9, c9, hv9, _, _, _⟩ := hown9.row
      subst hv9
      clear hown9
      go_wp2_with fail
      go_ret
      exact ⟨rfl, hb9⟩
    | some ys =>
      have hr : decRes (strNat s) = (ys, 0) := by unfold decRes; rw [hd]
      rw [hr] at hown9 ⊢
      simp only at hown9 ⊢
      obtain ⟨hl8, hyl, hyo⟩ := decF_form 64 (strNat s) ys (strNat_all s) hd
      have hokY : AllOk ys := fun y hy => ⟨(hyo y hy).1, by
        have := text_le_all (fun z hz => (hyo z hz).2.1) y hy
        rw [← hl8, strNat_len] at this
        omega⟩
      have henr : encRes ys = (encAll ys, 0) := by
        unfold encRes
        rw [if_neg (by omega), List.all_eq_true.2 (fun z hz => (hyo z hz).2.1)]
        rfl
      have hen := enc_own hown9 hokY (by omega)
      rw [henr, ← hl8] at hen
      simp only [strOf_strNat] at hen
      clear hown9 hokY henr hyo hl8 hr hd
      go_wp2_with fail
      refine hen.mono ?_
      rintro e w10 ⟨rfl, hc10⟩
      have hb10 := hb9.trans (hc10.mono hb9.size)
      clear hen
      go_wp2_with fail
      go_ret
      exact ⟨rfl, hb10⟩
  · rw [hex]
    have hdr : decRes (strNat (strOf (encAll xs))) = (xs.map clean, 0) := by
      rw [strNat_strOf (encAll_all8 hmx)]
      exact dec_enc hl64 (fun x hx => ⟨(HOX.out x hx).1, hmx x hx⟩)
    have hD1 := fun w => decode_any (strOf (encAll xs)) w (by rw [strOf_size]; have := encAll_len HOX.out; omega)
    rw [hdr] at hD1
    clear hex hdr
    generalize strOf (encAll xs) = s1 at *
    go_wp2_with fail
    refine (hD1 _).mono ?_
    rintro e w5 ⟨v5, rfl, hown5, hc5⟩
    have hb5 := hb3.trans (hc5.mono hb3.size)
    clear hD1 hb3 hc5
    obtain ⟨a5, c5, hv5, _, _, _⟩ := hown5.row
    rw [List.length_map] at hv5
    subst hv5
    go_wp2_with fail
    go_loopw [9] (fun i wr => ∃ k : Nat, k ≤ xs.length ∧ i = .int .i64 (k : Int) ∧ Below w.heap.size w wr ∧ OwnI wr w3.heap.size (.slice a5 xs.length c5) (xs.map clean)) (fun i _ => xs.length - (intOf i).toNat)
    case atStart => exact ⟨0, by omega, rfl, hb5, hown5⟩
    case round =>
      obtain ⟨k, hk, rfl, hbl, how⟩ := hrel
      have hbs := hbl.size
      clear hb5 hown5
      by_cases hlt : k < xs.length
      · have hd1 : decide ((k : Int) < (xs.length : Int)) = true := by simp; omega
        obtain ⟨b1, o1, rfl, l1, at1⟩ := HX.out.here hlt
        have at1' := at1.below hbl l1
        have hmk := hmx xs[k] (List.getElem_mem hlt)
        have hok := (HOX.out xs[k] (List.getElem_mem hlt)).1
        obtain ⟨x, hxe⟩ : ∃ x, xs[k] = x := ⟨_, rfl⟩
        rw [hxe] at at1' hmk hok
        have HXE := hide_it hxe
        have hcl := fun w => clean_any x w hok
        have hcx : cln x = clean x := by unfold cln; rw [hmk]; rfl
        rw [hcx] at hcl
        obtain ⟨c0, c1, c2, c3, c4, c5', c6⟩ := at1'
        have hil := fun w => lawItem_any x w
        clear at1 hxe hcx
        go_wp2_with fail
        refine (hil _).mono ?_
        rintro e w6 ⟨rfl, hc6⟩
        have hb6 := hbl.trans (hc6.mono hbs)
        have how6 := how.below hc6
        clear hil hc6 how c0 c1 c2 c3 c4 c5' c6
        go_wp2_with fail
        refine (hcl _).mono ?_
        rintro e w7 ⟨rfl, hc7⟩
        have hb7 := hb6.trans (hc7.mono hb6.size)
        have how7 := how6.below hc7
        clear hcl hc7 how6 hb6
        have BX := BoxI.new w7 (clean x)
        have hbA : Below w7.heap.size w7 (w7.alloc (.cells #[.int .i64 (clean x).k, .bool (clean x).b, .int .i64 (clean x).n, .float .f64 (clean x).f, .complex .f64 (clean x).r (clean x).i, .string (clean x).t] 39)) := (Below.refl _ _).alloc (Nat.le_refl _) _
        have how8 := how7.below hbA
        have hb8 := hb7.trans (hbA.mono hb7.size)
        have hrow := how8.row
        obtain ⟨a6, c6, hv6, hrI, _, _⟩ := hrow
        rw [List.length_map] at hv6
        cases hv6
        obtain ⟨b2, o2, rfl, l2, at2⟩ := hrI.here (i := k) (by simp; omega)
        have hget : (xs.map clean)[k]'(by simp; omega) = clean x := by rw [List.getElem_map, HXE.out]
        rw [hget] at at2
        have hal := fun w => alike_same (clean x) w
        have lB := BX.lt
        clear how7 hbA hget hrI hb7 HXE
        generalize clean x = y at *
        go_wp2_with fail
        generalize hW : w7.alloc (.cells #[.int .i64 y.k, .bool y.b, .int .i64 y.n, .float .f64 y.f, .complex .f64 y.r y.i, .string y.t] 39) = W at *
        refine wp_region_held_drew (S := (fun w' => Below W.heap.size W w')) (by kernel_rfl) ?_ (fun hHeld => ?_)
        · exact (Below.refl _ _).drew
        refine take_on (i := 0) (v := ?_) rfl rfl (by kernel_rfl) (by kernel_rfl) (by kernel_rfl) (fun _ _ _ h => h) rfl ?_ hHeld ?_
        rotate_left
        · (intro wq hSq; obtain ⟨q0, q1, q2, q3, q4, q5⟩ := (BX.below hSq lB).cells; obtain ⟨r0, r1, r2, r3, r4, r5⟩ := at2.below hSq l2; go_simp <;> first | with_reducible rfl | rfl)
        simp only [Act.put, List.setIfInBounds_toArray, List.set_cons_zero, List.set_cons_succ]
        refine take_on (i := 1) (v := ?_) rfl rfl (by kernel_rfl) (by kernel_rfl) (by kernel_rfl) (fun _ _ _ h => h) rfl ?_ hHeld ?_
        rotate_left
        · (intro wq hSq; obtain ⟨q0, q1, q2, q3, q4, q5⟩ := (BX.below hSq lB).cells; obtain ⟨r0, r1, r2, r3, r4, r5⟩ := at2.below hSq l2; go_simp <;> first | with_reducible rfl | rfl)
        simp only [Act.put, List.setIfInBounds_toArray, List.set_cons_zero, List.set_cons_succ]
        refine take_on (i := 2) (v := ?_) rfl rfl (by kernel_rfl) (by kernel_rfl) (by kernel_rfl) (fun _ _ _ h => h) rfl ?_ hHeld ?_
        rotate_left
        · (intro wq hSq; obtain ⟨q0, q1, q2, q3, q4, q5⟩ := (BX.below hSq lB).cells; obtain ⟨r0, r1, r2, r3, r4, r5⟩ := at2.below hSq l2; go_simp <;> first | with_reducible rfl | rfl)
        simp only [Act.put, List.setIfInBounds_toArray, List.set_cons_zero, List.set_cons_succ]
        refine take_on (i := 3) (v := ?_) rfl rfl (by kernel_rfl) (by kernel_rfl) (by kernel_rfl) (fun _ _ _ h => h) rfl ?_ hHeld ?_
        rotate_left
        · (intro wq hSq; obtain ⟨q0, q1, q2, q3, q4, q5⟩ := (BX.below hSq lB).cells; obtain ⟨r0, r1, r2, r3, r4, r5⟩ := at2.below hSq l2; go_simp <;> first | with_reducible rfl | rfl)
        simp only [Act.put, List.setIfInBounds_toArray, List.set_cons_zero, List.set_cons_succ]
        refine take_on (i := 4) (v := ?_) rfl rfl (by kernel_rfl) (by kernel_rfl) (by kernel_rfl) (fun _ _ _ h => h) rfl ?_ hHeld ?_
        rotate_left
        · (intro wq hSq; obtain ⟨q0, q1, q2, q3, q4, q5⟩ := (BX.below hSq lB).cells; obtain ⟨r0, r1, r2, r3, r4, r5⟩ := at2.below hSq l2; go_simp <;> first | with_reducible rfl | rfl)
        simp only [Act.put, List.setIfInBounds_toArray, List.set_cons_zero, List.set_cons_succ]
        refine take_on (i := 5) (v := ?_) rfl rfl (by kernel_rfl) (by kernel_rfl) (by kernel_rfl) (fun _ _ _ h => h) rfl ?_ hHeld ?_
        rotate_left
        · (intro wq hSq; obtain ⟨q0, q1, q2, q3, q4, q5⟩ := (BX.below hSq lB).cells; obtain ⟨r0, r1, r2, r3, r4, r5⟩ := at2.below hSq l2; go_simp <;> first | with_reducible rfl | rfl)
        simp only [Act.put, List.setIfInBounds_toArray, List.set_cons_zero, List.set_cons_succ]
        refine take_on (i := 6) (v := ?_) rfl rfl (by kernel_rfl) (by kernel_rfl) (by kernel_rfl) (fun _ _ _ h => h) rfl ?_ hHeld ?_
        rotate_left
        · (intro wq hSq; obtain ⟨q0, q1, q2, q3, q4, q5⟩ := (BX.below hSq lB).cells; obtain ⟨r0, r1, r2, r3, r4, r5⟩ := at2.below hSq l2; go_simp <;> first | with_reducible rfl | rfl)
        simp only [Act.put, List.setIfInBounds_toArray, List.set_cons_zero, List.set_cons_succ]
        refine take_on (i := 7) (v := ?_) rfl rfl (by kernel_rfl) (by kernel_rfl) (by kernel_rfl) (fun _ _ _ h => h) rfl ?_ hHeld ?_
        rotate_left
        · (intro wq hSq; obtain ⟨q0, q1, q2, q3, q4, q5⟩ := (BX.below hSq lB).cells; obtain ⟨r0, r1, r2, r3, r4, r5⟩ := at2.below hSq l2; go_simp <;> first | with_reducible rfl | rfl)
        simp only [Act.put, List.setIfInBounds_toArray, List.set_cons_zero, List.set_cons_succ]
        refine take_on (i := 8) (v := ?_) rfl rfl (by kernel_rfl) (by kernel_rfl) (by kernel_rfl) (fun _ _ _ h => h) rfl ?_ hHeld ?_
        rotate_left
        · (intro wq hSq; obtain ⟨q0, q1, q2, q3, q4, q5⟩ := (BX.below hSq lB).cells; obtain ⟨r0, r1, r2, r3, r4, r5⟩ := at2.below hSq l2; go_simp <;> first | with_reducible rfl | rfl)
        simp only [Act.put, List.setIfInBounds_toArray, List.set_cons_zero, List.set_cons_succ]
        refine take_on (i := 9) (v := ?_) rfl rfl (by kernel_rfl) (by kernel_rfl) (by kernel_rfl) (fun _ _ _ h => h) rfl ?_ hHeld ?_
        rotate_left
        · (intro wq hSq; obtain ⟨q0, q1, q2, q3, q4, q5⟩ := (BX.below hSq lB).cells; obtain ⟨r0, r1, r2, r3, r4, r5⟩ := at2.below hSq l2; go_simp <;> first | with_reducible rfl | rfl)
        simp only [Act.put, List.setIfInBounds_toArray, List.set_cons_zero, List.set_cons_succ]
        refine take_on (i := 10) (v := ?_) rfl rfl (by kernel_rfl) (by kernel_rfl) (by kernel_rfl) (fun _ _ _ h => h) rfl ?_ hHeld ?_
        rotate_left
        · (intro wq hSq; obtain ⟨q0, q1, q2, q3, q4, q5⟩ := (BX.below hSq lB).cells; obtain ⟨r0, r1, r2, r3, r4, r5⟩ := at2.below hSq l2; go_simp <;> first | with_reducible rfl | rfl)
        simp only [Act.put, List.setIfInBounds_toArray, List.set_cons_zero, List.set_cons_succ]
        refine take_on (i := 11) (v := ?_) rfl rfl (by kernel_rfl) (by kernel_rfl) (by kernel_rfl) (fun _ _ _ h => h) rfl ?_ hHeld ?_
        rotate_left
        · (intro wq hSq; obtain ⟨q0, q1, q2, q3, q4, q5⟩ := (BX.below hSq lB).cells; obtain ⟨r0, r1, r2, r3, r4, r5⟩ := at2.below hSq l2; go_simp <;> first | with_reducible rfl | rfl)
        simp only [Act.put, List.setIfInBounds_toArray, List.set_cons_zero, List.set_cons_succ]
        refine take_on (i := 12) (v := ?_) rfl rfl (by kernel_rfl) (by kernel_rfl) (by kernel_rfl) (fun _ _ _ h => h) rfl ?_ hHeld ?_
        rotate_left
        · (intro wq hSq; obtain ⟨q0, q1, q2, q3, q4, q5⟩ := (BX.below hSq lB).cells; obtain ⟨r0, r1, r2, r3, r4, r5⟩ := at2.below hSq l2; go_simp <;> first | with_reducible rfl | rfl)
        simp only [Act.put, List.setIfInBounds_toArray, List.set_cons_zero, List.set_cons_succ]
        refine take_on (i := 13) (v := ?_) rfl rfl (by kernel_rfl) (by kernel_rfl) (by kernel_rfl) (fun _ _ _ h => h) rfl ?_ hHeld ?_
        rotate_left
        · (intro wq hSq; obtain ⟨q0, q1, q2, q3, q4, q5⟩ := (BX.below hSq lB).cells; obtain ⟨r0, r1, r2, r3, r4, r5⟩ := at2.below hSq l2; go_simp <;> first | with_reducible rfl | rfl)
        simp only [Act.put, List.setIfInBounds_toArray, List.set_cons_zero, List.set_cons_succ]
        refine take_on (i := 14) (v := ?_) rfl rfl (by kernel_rfl) (by kernel_rfl) (by kernel_rfl) (fun _ _ _ h => h) rfl ?_ hHeld ?_
        rotate_left
        · (intro wq hSq; obtain ⟨q0, q1, q2, q3, q4, q5⟩ := (BX.below hSq lB).cells; obtain ⟨r0, r1, r2, r3, r4, r5⟩ := at2.below hSq l2; go_simp <;> first | with_reducible rfl | rfl)
        simp only [Act.put, List.setIfInBounds_toArray, List.set_cons_zero, List.set_cons_succ]
        refine take_on (i := 15) (v := ?_) rfl rfl (by kernel_rfl) (by kernel_rfl) (by kernel_rfl) (fun _ _ _ h => h) rfl ?_ hHeld ?_
        rotate_left
        · (intro wq hSq; obtain ⟨q0, q1, q2, q3, q4, q5⟩ := (BX.below hSq lB).cells; obtain ⟨r0, r1, r2, r3, r4, r5⟩ := at2.below hSq l2; go_simp <;> first | with_reducible rfl | rfl)
        simp only [Act.put, List.setIfInBounds_toArray, List.set_cons_zero, List.set_cons_succ]
        refine take_on (i := 16) (v := ?_) rfl rfl (by kernel_rfl) (by kernel_rfl) (by kernel_rfl) (fun _ _ _ h => h) rfl ?_ hHeld ?_
        rotate_left
        · (intro wq hSq; obtain ⟨q0, q1, q2, q3, q4, q5⟩ := (BX.below hSq lB).cells; obtain ⟨r0, r1, r2, r3, r4, r5⟩ := at2.below hSq l2; go_simp <;> first | with_reducible rfl | rfl)
        simp only [Act.put, List.setIfInBounds_toArray, List.set_cons_zero, List.set_cons_succ]
        refine take_on (i := 17) (v := ?_) rfl rfl (by kernel_rfl) (by kernel_rfl) (by kernel_rfl) (fun _ _ _ h => h) rfl ?_ hHeld ?_
        rotate_left
        · (intro wq hSq; obtain ⟨q0, q1, q2, q3, q4, q5⟩ := (BX.below hSq lB).cells; obtain ⟨r0, r1, r2, r3, r4, r5⟩ := at2.below hSq l2; go_simp <;> first | with_reducible rfl | rfl)
        simp only [Act.put, List.setIfInBounds_toArray, List.set_cons_zero, List.set_cons_succ]
        refine take_on (i := 18) (v := ?_) rfl rfl (by kernel_rfl) (by kernel_rfl) (by kernel_rfl) (fun _ _ _ h => h) rfl ?_ hHeld ?_
        rotate_left
        · (intro wq hSq; obtain ⟨q0, q1, q2, q3, q4, q5⟩ := (BX.below hSq lB).cells; obtain ⟨r0, r1, r2, r3, r4, r5⟩ := at2.below hSq l2; go_simp <;> first | with_reducible rfl | rfl)
        simp only [Act.put, List.setIfInBounds_toArray, List.set_cons_zero, List.set_cons_succ]
        refine take_on (i := 19) (v := ?_) rfl rfl (by kernel_rfl) (by kernel_rfl) (by kernel_rfl) (fun _ _ _ h => h) rfl ?_ hHeld ?_
        rotate_left
        · (intro wq hSq; obtain ⟨q0, q1, q2, q3, q4, q5⟩ := (BX.below hSq lB).cells; obtain ⟨r0, r1, r2, r3, r4, r5⟩ := at2.below hSq l2; go_simp <;> first | with_reducible rfl | rfl)
        simp only [Act.put, List.setIfInBounds_toArray, List.set_cons_zero, List.set_cons_succ]
        refine take_on (i := 20) (v := ?_) rfl rfl (by kernel_rfl) (by kernel_rfl) (by kernel_rfl) (fun _ _ _ h => h) rfl ?_ hHeld ?_
        rotate_left
        · (intro wq hSq; obtain ⟨q0, q1, q2, q3, q4, q5⟩ := (BX.below hSq lB).cells; obtain ⟨r0, r1, r2, r3, r4, r5⟩ := at2.below hSq l2; go_simp <;> first | with_reducible rfl | rfl)
        simp only [Act.put, List.setIfInBounds_toArray, List.set_cons_zero, List.set_cons_succ]
        refine take_on (i := 21) (v := ?_) rfl rfl (by kernel_rfl) (by kernel_rfl) (by kernel_rfl) (fun _ _ _ h => h) rfl ?_ hHeld ?_
        rotate_left
        · (intro wq hSq; obtain ⟨q0, q1, q2, q3, q4, q5⟩ := (BX.below hSq lB).cells; obtain ⟨r0, r1, r2, r3, r4, r5⟩ := at2.below hSq l2; go_simp <;> first | with_reducible rfl | rfl)
        simp only [Act.put, List.setIfInBounds_toArray, List.set_cons_zero, List.set_cons_succ]
        refine take_on (i := 22) (v := ?_) rfl rfl (by kernel_rfl) (by kernel_rfl) (by kernel_rfl) (fun _ _ _ h => h) rfl ?_ hHeld ?_
        rotate_left
        · (intro wq hSq; obtain ⟨q0, q1, q2, q3, q4, q5⟩ := (BX.below hSq lB).cells; obtain ⟨r0, r1, r2, r3, r4, r5⟩ := at2.below hSq l2; go_simp <;> first | with_reducible rfl | rfl)
        simp only [Act.put, List.setIfInBounds_toArray, List.set_cons_zero, List.set_cons_succ]
        refine take_on (i := 23) (v := ?_) rfl rfl (by kernel_rfl) (by kernel_rfl) (by kernel_rfl) (fun _ _ _ h => h) rfl ?_ hHeld ?_
        rotate_left
        · (intro wq hSq; obtain ⟨q0, q1, q2, q3, q4, q5⟩ := (BX.below hSq lB).cells; obtain ⟨r0, r1, r2, r3, r4, r5⟩ := at2.below hSq l2; go_simp <;> first | with_reducible rfl | rfl)
        simp only [Act.put, List.setIfInBounds_toArray, List.set_cons_zero, List.set_cons_succ]
        refine take_one (i := 24) rfl (by kernel_rfl) (fun K hK => ?_)
        go_simp
        refine (hal _).mono ?_; rintro e y1 ⟨rfl, hq1⟩; have hSx := hHeld.trans (hq1.mono hHeld.size); clear hq1
        try go_wp2_with fail
        refine hK.out _ _ ?_ (fun hHeld => ?_)
        · exact hSx
        clear hK K
        try simp only [Act.put, List.setIfInBounds_toArray, List.set_cons_zero, List.set_cons_succ]
        refine take_on (i := 25) (v := ?_) rfl rfl (by kernel_rfl) (by kernel_rfl) (by kernel_rfl) (fun _ _ _ h => h) rfl ?_ hHeld ?_
        rotate_left
        · (intro wq hSq; obtain ⟨q0, q1, q2, q3, q4, q5⟩ := (BX.below hSq lB).cells; obtain ⟨r0, r1, r2, r3, r4, r5⟩ := at2.below hSq l2; go_simp <;> first | with_reducible rfl | rfl)
        simp only [Act.put, List.setIfInBounds_toArray, List.set_cons_zero, List.set_cons_succ]
        refine wpAnyH_done (by kernel_rfl) ?_ _
        have hb9 := hb8.trans (hHeld.mono hb8.size)
        have how9 := how8.below hHeld
        go_wp2_with fail
        go_roundw
        case rel => exact ⟨k + 1, by omega, by go_num, hb9, how9⟩
        case measure => simp [intOf]; omega
      · have hd1 : decide ((k : Int) < (xs.length : Int)) = false := by simp; omega
        clear how
        go_wp2_with fail
        refine (hDs _).mono ?_
        rintro e w9 ⟨v9, rfl, hown9, hc9⟩
        have hb9 := hbl.trans (hc9.mono hbl.size)
        clear hc9
        cases hd : decF 64 (strNat s) with
        | none =>
          have hr : decRes (strNat s) = ([], 41) := by unfold decRes; rw [hd]
          rw [hr] at hown9 ⊢
          simp only at hown9 ⊢
          obtain ⟨a9, c9, hv9, _, _, _⟩ := hown9.row
          subst hv9
          clear hown9
          go_wp2_with fail
          go_ret
          exact ⟨rfl, hb9⟩
        | some ys =>
          have hr : decRes (strNat s) = (ys, 0) := by unfold decRes; rw [hd]
          rw [hr] at hown9 ⊢
          simp only at hown9 ⊢
          obtain ⟨hl8, hyl, hyo⟩ := decF_form 64 (strNat s) ys (strNat_all s) hd
          have hokY : AllOk ys := fun y hy => ⟨(hyo y hy).1, by
            have := text_le_all (fun z hz => (hyo z hz).2.1) y hy
            rw [← hl8, strNat_len] at this
            omega⟩
          have henr : encRes ys = (encAll ys, 0) := by
            unfold encRes
            rw [if_neg (by omega), List.all_eq_true.2 (fun z hz => (hyo z hz).2.1)]
            rfl
          have hen := enc_own hown9 hokY (by omega)
          rw [henr, ← hl8] at hen
          simp only [strOf_strNat] at hen
          clear hown9 hokY henr hyo hl8 hr hd
          go_wp2_with fail
          refine hen.mono ?_
          rintro e w10 ⟨rfl, hc10⟩
          have hb10 := hb9.trans (hc10.mono hb9.size)
          clear hen
          go_wp2_with fail
          go_ret
          exact ⟨rfl, hb10⟩

end Go.Proofs.Ytahnpbgbekbfhab.orderBack
