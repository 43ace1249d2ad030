/- Encode of every list: the law's walk. -/
import Derived.Test.YtahnpbgbekbfhaaRf7
namespace Go.Proofs.Ytahnpbgbekbfhaa.orderEncodes
open Go.RowKit

set_option maxRecDepth 100000 in
set_option maxHeartbeats 1000000 in
theorem walk (a : Option Addr) (ca : Nat) (xs : List It) (w : World) (hra : RowR w a xs) (hla : xs.length ≤ 1048576) (hoa : ∀ x ∈ xs, ItOk x ∧ x.t.size ≤ 1048576) :
    Calls Try.prog 7 #[.slice a xs.length ca] w fun e w' => e = .returned (.bool true) ∧ Below w.heap.size w w' := by
  have hokx : AllOk xs := fun x hx => ⟨(hoa x hx).1, by have := (hoa x hx).2; omega⟩
  have HX := hide_it hra
  have HOX := hide_it hokx
  clear hra hoa hokx
  go_enter Try.func7, Try.ntmps7
  go_wp2_with fail
  refine (items_any a ca xs w HX.out (by omega)).mono ?_
  rintro e w1 ⟨⟨v1, rfl, hown1⟩, hb1⟩
  have hen := enc_own hown1 HOX.out (by omega)
  obtain ⟨E, hE⟩ : ∃ E, E = encRes xs := ⟨_, rfl⟩
  rw [← hE] at hen
  have HE := hide_it hE
  clear hE hown1
  obtain ⟨s1, hs1⟩ : ∃ s1, s1 = strOf E.1 := ⟨_, rfl⟩
  obtain ⟨c1, hc1⟩ : ∃ c1, c1 = E.2 := ⟨_, rfl⟩
  rw [← hs1, ← hc1] at hen
  have HS := hide_it hs1
  have HC := hide_it hc1
  clear hs1 hc1
  go_wp2_with fail
  refine hen.mono ?_
  rintro e w2 ⟨rfl, hc2⟩
  have hb2 := hb1.trans (hc2.mono hb1.size)
  clear hb1 hc2 hen
  go_wp2_with fail
  refine (docs_any a ca xs w2 (HX.out.below hb2) (by omega)).mono ?_
  rintro e w3 ⟨⟨v3, rfl, hown3⟩, hc3⟩
  have hb3 := hb2.trans (hc3.mono hb2.size)
  clear hb2 hc3
  obtain ⟨a3, c3, hv3, hr3, _, _⟩ := hown3.row
  subst hv3
  have hre := rencode_any a3 c3 xs w3 hr3 HOX.out (by omega)
  rw [← HE.out, ← HS.out, ← HC.out] at hre
  clear hown3 hr3
  have hcr : c1 = 0 ∨ c1 = 3 ∨ c1 = 40 := by
    rw [HC.out, HE.out]
    unfold encRes
    split
    · exact .inr (.inl rfl)
    · split
      · exact .inl rfl
      · exact .inr (.inr rfl)
  go_wp2_with fail
  refine hre.mono ?_
  rintro e w4 ⟨rfl, hc4⟩
  have hb4 := hb3.trans (hc4.mono hb3.size)
  clear hb3 hc4 hre
  rcases hcr with h | h | h
  all_goals (
    rw [h]
    go_wp2_with fail
    refine (awake_any _).mono ?_
    rintro e w5 ⟨rfl, hc5⟩
    have hb5 := hb4.trans (hc5.mono hb4.size)
    go_wp2_with fail
    go_ret
    exact ⟨rfl, hb5⟩)

end Go.Proofs.Ytahnpbgbekbfhaa.orderEncodes
