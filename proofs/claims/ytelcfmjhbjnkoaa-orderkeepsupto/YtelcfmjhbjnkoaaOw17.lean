/- The calls whose answers the document fixes. -/
import Derived.Test.YtelcfmjhbjnkoaaOw16
namespace Go.Proofs.Ytelcfmjhbjnkoaa
open Go.RowKit

attribute [local go_sem] st_float st_complex

/-- The two items that are laid down. -/
abbrev aw1 : It := ⟨3, false, -1, 0, 0, 0, ByteArray.empty⟩
abbrev aw2 : It := ⟨6, false, 0, 0, 0, 0, ⟨#[97, 0]⟩⟩
abbrev awText : ByteArray := ⟨#[3, 127, 255, 255, 255, 255, 255, 255, 255, 6, 97, 0, 255, 0, 1]⟩
theorem aw_enc : encRes [aw1, aw2] = ([3, 127, 255, 255, 255, 255, 255, 255, 255, 6, 97, 0, 255, 0, 1], 0) := by kernel_rfl
theorem aw_text : strOf [3, 127, 255, 255, 255, 255, 255, 255, 255, 6, 97, 0, 255, 0, 1] = awText := by kernel_rfl
theorem aw_dec : decRes (strNat ⟨#[4, 191, 240, 0, 0, 0, 0, 0, 0]⟩) = ([⟨4, false, 0, 4607182418800017408, 0, 0, ByteArray.empty⟩], 0) := by kernel_rfl
theorem aw_next : nextRes (strNat ⟨#[97, 255]⟩) = some [98] := by kernel_rfl
theorem aw_b : strOf [98] = ⟨#[98]⟩ := by kernel_rfl
theorem aw_cmp : cmpIt (it0 2) ⟨2, true, 0, 0, 0, 0, ByteArray.empty⟩ = -1 := by kernel_rfl
theorem aw_ok (k n : Int) (b : Bool) (t : ByteArray) (h1 : -9223372036854775808 ≤ k) (h2 : k ≤ 9223372036854775807) (h3 : -9223372036854775808 ≤ n) (h4 : n ≤ 9223372036854775807) : ItOk ⟨k, b, n, 0, 0, 0, t⟩ :=
  ⟨h1, h2, h3, h4, show 0 < 18446744073709551616 by decide, show 0 < 18446744073709551616 by decide, show 0 < 18446744073709551616 by decide⟩

set_option maxRecDepth 100000 in
set_option maxHeartbeats 1000000 in
theorem awake_any (w : World) : Calls Try.prog 4 #[] w fun e w' => e = .returned (.bool true) ∧ Below w.heap.size w w' := by
  have hb0 : Below w.heap.size w (w.alloc (.cells #[.int .i64 3, .bool false, .int .i64 (-1), .float .f64 0, .complex .f64 0 0, .string ByteArray.empty, .int .i64 6, .bool false, .int .i64 0, .float .f64 0, .complex .f64 0 0, .string ⟨#[97, 0]⟩] 29)) := (Below.refl _ _).alloc (Nat.le_refl _) _
  have hrow : RowI (w.alloc (.cells #[.int .i64 3, .bool false, .int .i64 (-1), .float .f64 0, .complex .f64 0 0, .string ByteArray.empty, .int .i64 6, .bool false, .int .i64 0, .float .f64 0, .complex .f64 0 0, .string ⟨#[97, 0]⟩] 29)) (some ⟨w.heap.size, 0, none⟩) [aw1, aw2] := by
    have hh := heap_alloc_new w (.cells #[.int .i64 3, .bool false, .int .i64 (-1), .float .f64 0, .complex .f64 0 0, .string ByteArray.empty, .int .i64 6, .bool false, .int .i64 0, .float .f64 0, .complex .f64 0 0, .string ⟨#[97, 0]⟩] 29)
    refine .inr ⟨w.heap.size, 0, rfl, by simp, fun i hi => ?_⟩
    match i, hi with
    | 0, _ => exact ⟨by rw [cell_of_row _ _ _ _ _ _ hh]; rfl, by rw [cell_of_row _ _ _ _ _ _ hh]; rfl, by rw [cell_of_row _ _ _ _ _ _ hh]; rfl, by rw [cell_of_row _ _ _ _ _ _ hh]; rfl, by rw [cell_of_row _ _ _ _ _ _ hh]; rfl, by rw [cell_of_row _ _ _ _ _ _ hh]; rfl⟩
    | 1, _ => exact ⟨by rw [cell_of_row _ _ _ _ _ _ hh]; rfl, by rw [cell_of_row _ _ _ _ _ _ hh]; rfl, by rw [cell_of_row _ _ _ _ _ _ hh]; rfl, by rw [cell_of_row _ _ _ _ _ _ hh]; rfl, by rw [cell_of_row _ _ _ _ _ _ hh]; rfl, by rw [cell_of_row _ _ _ _ _ _ hh]; rfl⟩
  have hok : AllOk [aw1, aw2] := fun x hx => by
    rcases List.mem_cons.1 hx with rfl | hx
    · exact ⟨aw_ok _ _ _ _ (by decide) (by decide) (by decide) (by decide), by decide⟩
    · rcases List.mem_cons.1 hx with rfl | hx
      · exact ⟨aw_ok _ _ _ _ (by decide) (by decide) (by decide) (by decide), by decide⟩
      · cases hx
  have hE := encode_any (some ⟨w.heap.size, 0, none⟩) 2 [aw1, aw2] _ hrow hok (by simp)
  rw [aw_enc] at hE
  simp only [aw_text] at hE
  have hD := fun w => decode_any ⟨#[4, 191, 240, 0, 0, 0, 0, 0, 0]⟩ w (by decide)
  have hN := fun w => next_any ⟨#[97, 255]⟩ w (by decide)
  have hC := fun w => compare_any (it0 2) ⟨2, true, 0, 0, 0, 0, ByteArray.empty⟩ w (aw_ok _ _ _ _ (by decide) (by decide) (by decide) (by decide)) (aw_ok _ _ _ _ (by decide) (by decide) (by decide) (by decide))
  rw [aw_dec] at hD
  rw [aw_next] at hN
  rw [aw_cmp] at hC
  simp only [Option.getD_some, Option.isSome_some, aw_b] at hN
  simp only [it0] at hC
  have hfe : (FloatKind.f64.format.order 4607182418800017408 4607182418800017408 == some .eq) = true := by
    have e : FloatKind.f64.format = Ieee.double := rfl
    have hn : nanB 4607182418800017408 = false := by decide
    rw [e, order_double (by decide) (by decide), hn]
    simp [compare, compareOfLessAndEq]
  clear hrow hok
  go_enter Try.func4, Try.ntmps4
  go_wp2_with fail
  refine hE.mono ?_
  rintro e w1 ⟨rfl, hb1⟩
  have hw1 := hb0.trans (hb1.mono (by simp))
  clear hE hb0 hb1
  go_wp2_with fail
  refine (hD _).mono ?_
  rintro e w2 ⟨v2, rfl, hown2, hb2⟩
  have hw2 := hw1.trans (hb2.mono hw1.size)
  clear hD hw1 hb2
  go_wp2_with fail
  refine (hN _).mono ?_
  rintro e w3 ⟨rfl, hb3⟩
  have hw3 := hw2.trans (hb3.mono hw2.size)
  have hown3 := hown2.below hb3
  clear hN hw2 hb3 hown2
  obtain ⟨a, cap, hv, hr, _, _⟩ := hown3.row
  simp only [List.length_singleton] at hv
  subst hv
  obtain ⟨b, o, rfl, _, hat⟩ := hr.here (i := 0) (by simp)
  have hf := hat.c3
  simp only [Nat.zero_mul, Nat.add_zero, List.getElem_cons_zero] at hf
  clear hat hr hown3
  go_wp2_with fail
  refine (hC _).mono ?_
  rintro e w4 ⟨rfl, hb4⟩
  have hw4 := hw3.trans (hb4.mono hw3.size)
  clear hC
  go_wp2_with fail
  go_ret
  exact ⟨rfl, hw4⟩

end Go.Proofs.Ytelcfmjhbjnkoaa
