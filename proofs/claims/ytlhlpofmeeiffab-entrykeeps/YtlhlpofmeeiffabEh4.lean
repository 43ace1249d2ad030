/- The document's Encode of every entry. -/
import Derived.Test.YtlhlpofmeeiffabEhE
namespace Go.Proofs.Ytlhlpofmeeiffab
open Go.RowKit

set_option maxRecDepth 100000 in
set_option maxHeartbeats 400000 in
theorem rencode_no (x : En) (a : Option Addr) (cp : Nat) (w : World) (hm : mayE x = false) :
    Calls Try.prog 5 #[valE x a cp] w fun e w' => EncTo w x e w' := by
  have hb := boxE_below w x a cp
  have hk := rcheck_any x a cp (boxE w x a cp)
  have HC : Hid (chkE x = 100) := by unfold Hid chkE; rw [hm]; rfl
  rw [HC.out] at hk
  have HM := hide_it hm
  clear hm
  have hfin : ∀ w', Below w.heap.size w w' → EncTo w x (.returned (.tuple #[.slice none 0 0, .int .i64 100])) w' := fun w' h => by
    refine ⟨⟨_, by rw [HC.out]; rfl, ?_⟩, h⟩
    rw [HM.out]; exact World.ownsRow_nil _ _ _ _
  generalize EncTo w x = Q at *
  obtain ⟨kind, stamp, count, key, val, dead⟩ := x
  go_enter Try.func5, Try.ntmps5
  go_wp2_with fail
  refine hk.mono ?_
  rintro e w1 ⟨rfl, hb1⟩
  have hbw := hfin _ (hb.trans (hb1.mono hb.size))
  clear hk hb hb1 hfin HC HM
  go_wp2_with fail
  first | exact hbw | (go_ret2; exact hbw)

theorem rencode_any (x : En) (a : Option Addr) (cp : Nat) (w : World) (hr : RowB w a x.val) (hnil : a = none → x.val.length = 0 ∧ cp = 0) :
    Calls Try.prog 5 #[valE x a cp] w fun e w' => EncTo w x e w' := by
  cases hm : mayE x
  · exact rencode_no x a cp w hm
  · have M := may_parts hm
    obtain ⟨h1, h2⟩ := M.kind
    obtain ⟨kind, stamp, count, key, val, dead⟩ := x
    simp only at h1 h2 hr hnil
    have hst : hs kind = true → ∃ n : Nat, stamp = (n : Int) := fun e => ⟨stamp.toNat, by have h := M.st1 e; simp only at h; omega⟩
    have hct : hc kind = true → ∃ n : Nat, count = (n : Int) := fun e => ⟨count.toNat, by have h := M.ct1 e; simp only at h; omega⟩
    rcases kind_cases kind with rfl | rfl | rfl | rfl | rfl | rfl | h
    · exact rencode_1 stamp count key val dead a cp w hm hr hnil
    · exact rencode_2 stamp count key val dead a cp w hm hr hnil
    · obtain ⟨sn, rfl⟩ := hst rfl
      obtain ⟨cn, rfl⟩ := hct rfl
      exact rencode_3 sn cn key val dead a cp w hm hr hnil
    · obtain ⟨sn, rfl⟩ := hst rfl
      obtain ⟨cn, rfl⟩ := hct rfl
      exact rencode_4 sn cn key val dead a cp w hm hr hnil
    · obtain ⟨sn, rfl⟩ := hst rfl
      cases dead
      · exact rencode_5f sn count key val a cp w hm hr hnil
      · exact rencode_5t sn count key val a cp w hm hr hnil
    · obtain ⟨sn, rfl⟩ := hst rfl
      obtain ⟨cn, rfl⟩ := hct rfl
      exact rencode_6 sn cn key val dead a cp w hm hr hnil
    · exact absurd ⟨h1, h2⟩ h
end Go.Proofs.Ytlhlpofmeeiffab
