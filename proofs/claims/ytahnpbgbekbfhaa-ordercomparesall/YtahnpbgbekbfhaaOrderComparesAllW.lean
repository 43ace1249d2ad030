/- CompareAll of every two lists: the law's walk. -/
import Derived.Test.YtahnpbgbekbfhaaRf5
namespace Go.Proofs.Ytahnpbgbekbfhaa.orderComparesAll
open Go.RowKit

set_option maxRecDepth 100000 in
set_option maxHeartbeats 1000000 in
theorem walk (a : Option Addr) (ca : Nat) (xs : List It) (b : Option Addr) (cb_ : Nat) (ys : List It) (w : World) (hra : RowR w a xs) (hla : xs.length ≤ 2199023255488) (hoa : ∀ x ∈ xs, ItOk x ∧ x.t.size ≤ 140737488351232) (hrb : RowR w b ys) (hlb : ys.length ≤ 2199023255488) (hob : ∀ x ∈ ys, ItOk x ∧ x.t.size ≤ 140737488351232) :
    Calls Try.prog 6 #[.slice a xs.length ca, .slice b ys.length cb_] w fun e w' => e = .returned (.bool true) ∧ Below w.heap.size w w' := by
  have HX := hide_it hra
  have HY := hide_it hrb
  have HOX := hide_it hoa
  have HOY := hide_it hob
  clear hra hrb hoa hob
  go_enter Try.func6, Try.ntmps6
  go_wp2_with fail
  refine (items_any a ca xs w HX.out (by omega)).mono ?_
  rintro e w1 ⟨⟨v1, rfl, hown1⟩, hb1⟩
  go_wp2_with fail
  refine (items_any b cb_ ys w1 (HY.out.below hb1) (by omega)).mono ?_
  rintro e w2 ⟨⟨v2, rfl, hown2⟩, hc2⟩
  have hb2 := hb1.trans (hc2.mono hb1.size)
  have hcmp := cmp_own (hown1.below hc2) hown2 (fun x hx => (HOX.out x hx).1) (fun y hy => (HOY.out y hy).1) (by omega) (by omega)
  clear hb1 hc2 hown1 hown2
  obtain ⟨r, hr⟩ : ∃ r, r = cmpAll xs ys := ⟨_, rfl⟩
  rw [← hr] at hcmp
  have HRR := hide_it hr
  clear hr
  go_wp2_with fail
  refine hcmp.mono ?_
  rintro e w3 ⟨rfl, hc3⟩
  have hb3 := hb2.trans (hc3.mono hb2.size)
  clear hb2 hc3 hcmp
  go_wp2_with fail
  refine (docs_any a ca xs w3 (HX.out.below hb3) (by omega)).mono ?_
  rintro e w4 ⟨⟨v4, rfl, hown4⟩, hc4⟩
  have hb4 := hb3.trans (hc4.mono hb3.size)
  clear hb3 hc4
  go_wp2_with fail
  refine (docs_any b cb_ ys w4 (HY.out.below hb4) (by omega)).mono ?_
  rintro e w5 ⟨⟨v5, rfl, hown5⟩, hc5⟩
  have hb5 := hb4.trans (hc5.mono hb4.size)
  have hown4' := hown4.below hc5
  clear hb4 hc5 hown4
  obtain ⟨a4, c4, hv4, hr4, _, _⟩ := hown4'.row
  obtain ⟨a5, c5, hv5, hr5, _, _⟩ := hown5.row
  subst hv4
  subst hv5
  have hrc := rcompareAll_any a4 a5 c4 c5 xs ys w5 hr4 hr5 (fun x hx => ⟨(HOX.out x hx).1, by have := (HOX.out x hx).2; omega⟩) (fun x hx => ⟨(HOY.out x hx).1, by have := (HOY.out x hx).2; omega⟩) (by omega) (by omega)
  rw [← HRR.out] at hrc
  clear hown4' hown5 hr4 hr5
  go_wp2_with fail
  refine hrc.mono ?_
  rintro e w6 ⟨rfl, hc6⟩
  have hb6 := hb5.trans (hc6.mono hb5.size)
  clear hb5 hc6 hrc
  go_wp2_with fail
  refine (awake_any _).mono ?_
  rintro e w7 ⟨rfl, hc7⟩
  have hb7 := hb6.trans (hc7.mono hb6.size)
  go_wp2_with fail
  go_ret
  exact ⟨rfl, hb7⟩

end Go.Proofs.Ytahnpbgbekbfhaa.orderComparesAll
