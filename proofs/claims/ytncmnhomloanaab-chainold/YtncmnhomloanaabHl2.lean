/- The calls whose answers the document fixes; a walk through a chain that is not there. -/
import Derived.Test.YtncmnhomloanaabHl1
namespace Go.Proofs.Ytncmnhomloanaab
open Go.RowKit Go.Shelf

theorem HnTo.new {w1 w2 : World} {B p : Nat} {v : Value} {xs ys : List Lk} (h : HnTo w1 (fun j => B ≤ j) p v xs ys w2) (hB : B ≤ w1.heap.size) : ∃ v', Hn w2 (fun j => B ≤ j) p v' ys ∧ Below B w1 w2 := by
  obtain ⟨v', hv⟩ := h.hn
  refine ⟨v', hv.mono fun j hj => ?_, h.chg.below (fun k hk => hk) hB⟩
  rcases hj with hj | hj
  · exact hj
  · exact Nat.le_trans hB hj.1
/-- A chain that is new. -/
theorem hn_new (w : World) (B : Nat) (hB : B ≤ w.heap.size) : Hn (w.alloc (.cells #[.slice none 0 0] 60)) (fun j => B ≤ j) w.heap.size (.slice none 0 0) [] :=
  ⟨heap_alloc_new w _, OwnS.nil _ _ _ _, Good.nil, hB, (fun j e => by cases e)⟩

def awX : Lk := ⟨3, ⟨#[97]⟩, false⟩
def awY : Lk := ⟨5, ⟨#[]⟩, true⟩

set_option maxRecDepth 100000 in
set_option maxHeartbeats 4000000 in
theorem awake_any (w : World) : Calls Try.prog 8 #[] w fun e w' => e = .returned (.bool true) ∧ Below w.heap.size w w' := by
  obtain ⟨W, hW⟩ : ∃ W, W = w.alloc (.cells #[.slice none 0 0] 60) := ⟨_, rfl⟩
  have hb : Below w.heap.size w W := by rw [hW]; exact (Below.refl _ _).alloc (Nat.le_refl _) _
  have hH : Hn W (fun j => w.heap.size ≤ j) w.heap.size (.slice none 0 0) [] := by rw [hW]; exact hn_new w _ (Nat.le_refl _)
  have a1 := add_any hH awX (by decide) (by simp)
  rw [show addE [] awX = 0 from rfl, show addL [] awX = [awX] from rfl] at a1
  unfold awX lkV at a1
  go_enter Try.func8, Try.ntmps8
  go_wp2_with fail
  rw [← hW]
  clear hW hH
  refine a1.mono ?_
  rintro e w1 ⟨rfl, ht1⟩
  obtain ⟨v1, hH1, hb1⟩ := ht1.new hb.size
  have hB1 := hb.trans hb1
  have a2 := add_any hH1 ⟨3, ⟨#[]⟩, false⟩ (by decide) (by simp)
  rw [show addE [⟨3, ⟨#[97]⟩, false⟩] ⟨3, ⟨#[]⟩, false⟩ = 130 from rfl, show addL [⟨3, ⟨#[97]⟩, false⟩] ⟨3, ⟨#[]⟩, false⟩ = [⟨3, ⟨#[97]⟩, false⟩] from rfl] at a2
  unfold lkV at a2
  clear a1 ht1 hb hb1 hH1
  go_wp2_with fail
  refine a2.mono ?_
  rintro e w2 ⟨rfl, ht2⟩
  obtain ⟨v2, hH2, hb2⟩ := ht2.new hB1.size
  have hB2 := hB1.trans hb2
  have a3 := add_any hH2 ⟨5, ⟨#[]⟩, true⟩ (by decide) (by simp)
  rw [show addE [⟨3, ⟨#[97]⟩, false⟩] ⟨5, ⟨#[]⟩, true⟩ = 0 from rfl, show addL [⟨3, ⟨#[97]⟩, false⟩] ⟨5, ⟨#[]⟩, true⟩ = [⟨3, ⟨#[97]⟩, false⟩, ⟨5, ⟨#[]⟩, true⟩] from rfl] at a3
  unfold lkV at a3
  clear a2 ht2 hB1 hb2 hH2
  go_wp2_with fail
  refine a3.mono ?_
  rintro e w3 ⟨rfl, ht3⟩
  obtain ⟨v3, hH3, hb3⟩ := ht3.new hB2.size
  have hB3 := hB2.trans hb3
  have a4 := at_any hH3 (by simp) 4
  rw [show upN [⟨3, ⟨#[97]⟩, false⟩, ⟨5, ⟨#[]⟩, true⟩] 4 = 1 from rfl, show lastK [⟨3, ⟨#[97]⟩, false⟩, ⟨5, ⟨#[]⟩, true⟩] 1 = ⟨3, ⟨#[97]⟩, false⟩ from rfl, show decide (0 < 1) = true from rfl] at a4
  unfold tellL lkV at a4
  have HH3 := hide_it hH3
  clear a3 ht3 hB2 hb3 hH3
  go_wp2_with fail
  refine a4.mono ?_
  rintro e w4 ⟨rfl, hb4⟩
  have hz3 := hB3.size
  have hH4 := HH3.out.below hb4
  have hB4 := hB3.trans (hb4.mono hz3)
  obtain ⟨W5, hW5⟩ : ∃ W5, W5 = w4.alloc (.cells #[.int .i64 3, .string ⟨#[97]⟩, .bool false] 32) := ⟨_, rfl⟩
  have hb5 : Below w4.heap.size w4 W5 := by rw [hW5]; exact (Below.refl _ _).alloc (Nat.le_refl _) _
  have hH5 := hH4.below hb5
  have hz4 := hB4.size
  have hB5 := hB4.trans (hb5.mono hz4)
  have a5 := prune_any hH5 (by simp) 9
  rw [show pruN [⟨3, ⟨#[97]⟩, false⟩, ⟨5, ⟨#[]⟩, true⟩] 9 = 1 from rfl, show pruL [⟨3, ⟨#[97]⟩, false⟩, ⟨5, ⟨#[]⟩, true⟩] 9 = [⟨5, ⟨#[]⟩, true⟩] from rfl] at a5
  clear a4 hb4 hH4 hB4 hb5 HH3 hH5 hB3
  go_wp2_with fail
  rw [← hW5]
  clear hW5
  refine a5.mono ?_
  rintro e w6 ⟨rfl, ht6⟩
  obtain ⟨v6, hH6, hb6⟩ := ht6.new hB5.size
  have hB6 := hB5.trans hb6
  have a6 := len_any hH6
  have a7 := walk_any hH6 (by simp) (-1) (by omega)
  rw [show walkL [⟨5, ⟨#[]⟩, true⟩] (-1) = [⟨5, ⟨#[]⟩, true⟩] from rfl] at a7
  simp only [List.length_cons, List.length_nil, Nat.zero_add] at a6 a7
  clear a5 ht6 hB5 hb6 hH6
  go_wp2_with fail
  refine a6.mono ?_
  rintro e w7 ⟨rfl, hw7⟩
  obtain rfl := hw7.symm
  clear a6 hw7
  go_wp2_with fail
  refine a7.mono ?_
  rintro e w8 ⟨⟨v8, rfl, ho8⟩, hb8⟩
  obtain ⟨a8, c8, rfl, _⟩ := ho8.open
  have HB := hide_it (hB6.trans (hb8.mono hB6.size))
  clear a7 ho8 hb8 hB6
  go_wp2
  go_ret
  exact ⟨rfl, HB.out⟩

end Go.Proofs.Ytncmnhomloanaab
