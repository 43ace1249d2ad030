/- The law's calls whose answers the document fixes; its copy of an entry. -/
import Derived.Test.YtlhlpofmeeiffabEg3
import Derived.Lib.SlBytesConst
namespace Go.Proofs.Ytlhlpofmeeiffab
open Go.RowKit

theorem row_froz (w : World) (zs : List Nat) (fr : Nat × Nat) : RowB (w.alloc (.cells (zs.map encB).toArray 5 fr)) (some ⟨w.heap.size, 0, none⟩) zs := by
  refine .inr ⟨w.heap.size, 0, rfl, by simp, fun i hi => ?_⟩
  rw [cell_of_row _ _ _ _ _ _ (heap_alloc_new w _), Nat.zero_add, List.getElem?_toArray]
  exact mapB_at hi
theorem awake_enc : mayE ⟨1, 0, 0, ⟨#[107]⟩, [97, 98], false⟩ = true ∧ encE ⟨1, 0, 0, ⟨#[107]⟩, [97, 98], false⟩ = [1, 2, 107, 4, 97, 98] := by
  refine ⟨by decide, ?_⟩
  have h1 : shortL (2 * (ByteArray.mk #[107]).size) = [2] := shortL_low (by decide)
  have h2 : shortL (2 * [97, 98].length) = [4] := shortL_low (by decide)
  unfold encE eK eS eC eD eV
  simp only [h1, h2]
  rfl
theorem awake_dec : decE [6, 128, 1, 2] = some ⟨6, 64, 1, .empty, [], false⟩ := rfl

set_option maxRecDepth 100000 in
set_option maxHeartbeats 1000000 in
theorem awake_any (w : World) : Calls Try.prog 4 #[] w fun e w' => e = .returned (.bool true) ∧ Below w.heap.size w w' := by
  obtain ⟨W1, hW1⟩ : ∃ W, W = w.alloc (.cells #[.int .u8 97, .int .u8 98] 5 (2, 3)) := ⟨_, rfl⟩
  have hb1 : Below w.heap.size w W1 := by rw [hW1]; exact (Below.refl _ _).alloc (Nat.le_refl _) _
  have hr1 : RowB W1 (some ⟨w.heap.size, 0, none⟩) [97, 98] := by rw [hW1]; exact row_froz w [97, 98] (2, 3)
  have henc := encode_any ⟨1, 0, 0, ⟨#[107]⟩, [97, 98], false⟩ (some ⟨w.heap.size, 0, none⟩) 2 W1 hr1 (fun e => by cases e)
  obtain ⟨am, ae⟩ := awake_enc
  have kc1 := fun W => Lib.run_convert_bytes_const (P := Try.prog) W 22 5 #[.int .u8 97, .int .u8 98] 2 2 Try.underlying22 Try.underlying5
  go_enter Try.func4, Try.ntmps4
  go_wp2_with fail
  rw [← hW1]
  clear hW1 hr1
  refine henc.mono ?_
  rintro e w1 ⟨⟨v, rfl, hown⟩, hb2⟩
  have hch : chkE ⟨1, 0, 0, ⟨#[107]⟩, [97, 98], false⟩ = 0 := by unfold chkE; rw [am]; rfl
  rw [am, ae] at hown
  rw [hch]
  simp only [if_true] at hown
  have hbw1 := hb1.trans (hb2.mono hb1.size)
  clear henc am ae hch hb1 hb2
  obtain ⟨W2, hW2⟩ : ∃ W, W = w1.alloc (.cells #[.int .u8 6, .int .u8 128, .int .u8 1, .int .u8 2] 5) := ⟨_, rfl⟩
  have hb2 : Below w1.heap.size w1 W2 := by rw [hW2]; exact (Below.refl _ _).alloc (Nat.le_refl _) _
  have hr2 : RowB W2 (some ⟨w1.heap.size, 0, none⟩) [6, 128, 1, 2] := by rw [hW2]; exact row_lit w1 [6, 128, 1, 2]
  have hdec := decode_any (some ⟨w1.heap.size, 0, none⟩) 4 [6, 128, 1, 2] W2 hr2 (by intro z hz; simp at hz; omega) (by simp) (fun e => by cases e)
  have hown2 := hide_it (hown.below hb2)
  obtain ⟨av, cv, hv, _, _, _, hnv⟩ := hown.row
  subst hv
  clear hown
  go_wp2_with fail
  rw [← hW2]
  clear hW2 hr2
  refine hdec.mono ?_
  rintro e w2 ⟨⟨a2, c2, rfl, ho2⟩, hb3⟩
  rw [awake_dec] at ho2 ⊢
  simp only [Option.getD_some, Option.isSome_some, if_true] at ho2 ⊢
  have hown3 := hide_it (hown2.out.below hb3)
  have hbw2 := hbw1.trans ((hb2.trans (hb3.mono hb2.size)).mono hbw1.size)
  clear hdec hown2 hb2 hb3 hbw1
  obtain ⟨W3, hW3⟩ : ∃ W, W = w2.alloc (.cells #[.int .i64 6, .int .i64 64, .int .i64 1, .string .empty, .slice a2 0 c2, .bool false] 24) := ⟨_, rfl⟩
  have hb3 : Below w2.heap.size w2 W3 := by rw [hW3]; exact (Below.refl _ _).alloc (Nat.le_refl _) _
  have hbx3 : BoxN W3 w2.heap.size ⟨6, 64, 1, .empty, [], false⟩ a2 c2 := by rw [hW3]; exact heap_alloc_new w2 _
  have how := ofWrite_any ⟨⟨#[107]⟩, 9, [], true⟩ none 0 W3 (.inl rfl) (by simp) (fun _ => ⟨rfl, rfl⟩)
  have hown4 := hide_it (hown3.out.below hb3)
  obtain ⟨_, _, hv2, hrow2, _, _, hn2⟩ := ho2.row
  cases hv2
  clear hown3 ho2 kc1
  go_wp2_with fail
  rw [← hW3]
  clear hW3
  refine how.mono ?_
  rintro e w3 ⟨⟨a3, c3, rfl, ho3⟩, hb4⟩
  have hve := version_any ⟨2, 0, 0, ⟨#[107]⟩, [], false⟩ a3 c3 w3 (.inl rfl) (by simp) (by obtain ⟨_, _, hv, _, _, _, hn⟩ := ho3.row; cases hv; exact hn)
  have hbx4 := hbx3.under hb4 hbx3.lt
  have hown5 := hide_it (hown4.out.below hb4)
  have hb34 := hb3.trans (hb4.mono hb3.size)
  have hlt4 := hbx4.lt
  clear how hown4 hbx3 hb3 hb4 ho3
  go_wp2_with fail
  refine hve.mono ?_
  rintro e w4 ⟨⟨a4, c4, rfl, ho4⟩, hb5⟩
  have hbx5 := hbx4.under hb5 hbx4.lt
  have hown6 := hown5.out.below hb5
  have hb35 := hb34.trans (hb5.mono hb34.size)
  obtain ⟨_, _, hv4, _, _, _, hn4⟩ := ho4.row
  cases hv4
  clear hve hown5 hbx4 hb34 hb5 ho4
  have hvv : versionV ⟨2, 0, 0, ⟨#[107]⟩, [], false⟩ = ⟨⟨#[107]⟩, 0, [], true⟩ := rfl
  have hvi : isV ⟨2, 0, 0, ⟨#[107]⟩, [], false⟩ = true := rfl
  rw [hvv, hvi]
  rw [hvv] at hn4
  clear hvv hvi
  obtain ⟨W5, hW5⟩ : ∃ W, W = w4.alloc (.cells #[.string ⟨#[107]⟩, .int .i64 0, .slice a4 0 c4, .bool true] 30) := ⟨_, rfl⟩
  have hb6 : Below w4.heap.size w4 W5 := by rw [hW5]; exact (Below.refl _ _).alloc (Nat.le_refl _) _
  have hbv : BoxW W5 w4.heap.size ⟨⟨#[107]⟩, 0, [], true⟩ a4 c4 := by rw [hW5]; exact heap_alloc_new w4 _
  obtain ⟨_, _, hv6, hrow6, _, _, hn6⟩ := (hown6.below hb6).row
  cases hv6
  have kcv : (convert 22 9 (.slice av 6 cv)).run Try.prog W5 = .ok (.string ⟨#[1, 2, 107, 4, 97, 98]⟩) W5 := conv_row hrow6 hn6
  have hsame := same_eq ⟨6, 64, 1, .empty, [], false⟩ a2 none c2 0 W5 (.inl rfl) (.inl rfl) hn2 (fun _ => ⟨rfl, rfl⟩)
  have hBW := hide_it (hbw2.trans ((hb35.trans (hb6.mono hb35.size)).mono hbw2.size))
  obtain ⟨d0, d1, d2, d3, d4, d5⟩ := (hbx5.under hb6 hbx5.lt).inE
  simp only at d0 d1 d2 d3 d4 d5
  have hbv' := hide_it hbv
  have hltv : w4.heap.size < W5.heap.size := (Array.getElem?_eq_some_iff.1 hbv).1
  rw [hW5] at kcv d0 d1 d2 d3 d4 d5
  clear hown6 hbx5 hb6 hb35 hbw2 hbv hrow6 hn6 hnv hrow2 hlt4
  go_wp2_with fail
  rw [← hW5]
  refine hsame.mono ?_
  rintro e w5 ⟨rfl, hb7⟩
  have hbv7 : BoxW w5 w4.heap.size ⟨⟨#[107]⟩, 0, [], true⟩ a4 c4 := (hb7.block _ hltv).trans hbv'.out
  obtain ⟨g0, g1, g2, g3⟩ := hbv7.cells
  simp only at g0 g1 g2 g3
  have hsv := sameV_eq ⟨⟨#[107]⟩, 0, [], true⟩ a4 none c4 0 w5 (.inl rfl) (.inl rfl) hn4 (fun _ => ⟨rfl, rfl⟩)
  have hB7 := hide_it (hBW.out.trans (hb7.mono hBW.out.size))
  clear hsame hBW hb7 hbv' hbv7 hltv hW5 kcv d0 d1 d2 d3 d4 d5
  go_wp2_with fail
  refine hsv.mono ?_
  rintro e w6 ⟨rfl, hb8⟩
  have hB8 := hB7.out.trans (hb8.mono hB7.out.size)
  clear hsv hb8 hB7
  go_wp2_with fail
  go_ret
  exact ⟨rfl, hB8⟩
end Go.Proofs.Ytlhlpofmeeiffab
