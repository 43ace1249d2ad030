/- The texts' order is that of the lists: the law's walk. -/
import Derived.Test.YtahnpbgbekbfhabKt1
namespace Go.Proofs.Ytahnpbgbekbfhab.orderKept
open Go.RowKit

set_option maxRecDepth 100000 in
set_option maxHeartbeats 1000000 in
theorem walk (a : Option Addr) (ca : Nat) (xs : List It) (b : Option Addr) (cb_ : Nat) (ys : List It) (w : World) (hra : RowR w a xs) (hla : xs.length ≤ 1048576) (hoa : ∀ x ∈ xs, ItOk x ∧ x.t.size ≤ 1048576) (hrb : RowR w b ys) (hlb : ys.length ≤ 1048576) (hob : ∀ x ∈ ys, ItOk x ∧ x.t.size ≤ 1048576) :
    Calls Try.prog 4 #[.slice a xs.length ca, .slice b ys.length cb_] w fun e w' => e = .returned (.bool true) ∧ Below w.heap.size w w' := by
  have hokx : AllOk xs := fun x hx => ⟨(hoa x hx).1, by have := (hoa x hx).2; omega⟩
  have hoky : AllOk ys := fun x hx => ⟨(hob x hx).1, by have := (hob x hx).2; omega⟩
  have HX := hide_it hra
  have HY := hide_it hrb
  have HOX := hide_it hokx
  have HOY := hide_it hoky
  clear hra hrb hoa hob hokx hoky
  go_enter Try.func4, Try.ntmps4
  go_wp2_with fail
  refine (awake_any _).mono ?_
  rintro e w1 ⟨rfl, hb1⟩
  go_wp2_with fail
  refine (items_any a ca xs w1 (HX.out.below hb1) (by omega)).mono ?_
  rintro e w2 ⟨⟨v2, rfl, hown2⟩, hc2⟩
  have hb2 := hb1.trans (hc2.mono hb1.size)
  clear hb1 hc2
  go_wp2_with fail
  refine (enc_own hown2 HOX.out (by omega)).mono ?_
  rintro e w3 ⟨rfl, hc3⟩
  have hb3 := hb2.trans (hc3.mono hb2.size)
  clear hb2 hc3 hown2
  go_wp2_with fail
  refine (items_any b cb_ ys w3 (HY.out.below hb3) (by omega)).mono ?_
  rintro e w4 ⟨⟨v4, rfl, hown4⟩, hc4⟩
  have hb4 := hb3.trans (hc4.mono hb3.size)
  clear hb3 hc4
  go_wp2_with fail
  refine (enc_own hown4 HOY.out (by omega)).mono ?_
  rintro e w5 ⟨rfl, hc5⟩
  have hb5 := hb4.trans (hc5.mono hb4.size)
  clear hb4 hc5 hown4
  rcases enc_cases xs with ⟨c, hc, hex, _⟩ | ⟨hex, hl64, hmx⟩
  · rw [hex]
    have hcb : (c == 0) = false := by simpa using hc
    go_wp2_with fail
    go_ret
    exact ⟨rfl, hb5⟩
  · rw [hex]
    rcases enc_cases ys with ⟨c, hc, hey, _⟩ | ⟨hey, hl64y, hmy⟩
    · rw [hey]
      have hcb : (c == 0) = false := by simpa using hc
      generalize strOf (encAll xs) = s1 at *
      go_wp2_with fail
      go_ret
      exact ⟨rfl, hb5⟩
    · rw [hey]
      have o1 := str_less (strOf (encAll xs)) (strOf (encAll ys))
      have o2 := str_same (strOf (encAll xs)) (strOf (encAll ys))
      rw [strNat_strOf (encAll_all8 hmx), strNat_strOf (encAll_all8 hmy), lexc_encAll (fun x hx => ⟨(HOX.out x hx).1, hmx x hx⟩) (fun x hx => ⟨(HOY.out x hx).1, hmy x hx⟩)] at o1 o2
      have hrange := lexc_range (encAll xs) (encAll ys)
      rw [lexc_encAll (fun x hx => ⟨(HOX.out x hx).1, hmx x hx⟩) (fun x hx => ⟨(HOY.out x hx).1, hmy x hx⟩)] at hrange
      clear hmx hmy hex hey
      generalize strOf (encAll xs) = s1 at *
      generalize strOf (encAll ys) = s2 at *
      go_wp2_with fail
      refine (items_any a ca xs w5 (HX.out.below hb5) (by omega)).mono ?_
      rintro e w6 ⟨⟨v6, rfl, hown6⟩, hc6⟩
      have hb6 := hb5.trans (hc6.mono hb5.size)
      clear hb5 hc6
      go_wp2_with fail
      refine (items_any b cb_ ys w6 (HY.out.below hb6) (by omega)).mono ?_
      rintro e w7 ⟨⟨v7, rfl, hown7⟩, hc7⟩
      have hb7 := hb6.trans (hc7.mono hb6.size)
      have hown6' := hown6.below hc7
      clear hb6 hc7 hown6
      have hcmp := cmp_own hown6' hown7 (fun x hx => (HOX.out x hx).1) (fun y hy => (HOY.out y hy).1) (by omega) (by omega)
      generalize cmpAll xs ys = r at *
      go_wp2_with fail
      refine hcmp.mono ?_
      rintro e w8 ⟨rfl, hc8⟩
      have hb8 := hb7.trans (hc8.mono hb7.size)
      clear hb7 hc8 hcmp hown6' hown7
      rcases hrange with rfl | rfl | rfl
      · have p1 : Op.bytesLess s1.toList s2.toList = true := by rw [o1]; rfl
        clear o1 o2
        go_wp2_with fail
        go_ret
        exact ⟨rfl, hb8⟩
      · have p2 : (s1.toList == s2.toList) = true := by rw [o2]; rfl
        clear o1 o2
        go_wp2_with fail
        go_ret
        exact ⟨rfl, hb8⟩
      · have p1 : Op.bytesLess s1.toList s2.toList = false := by rw [o1]; rfl
        have p2 : (s1.toList == s2.toList) = false := by rw [o2]; rfl
        clear o1 o2
        go_wp2_with fail
        go_ret
        exact ⟨rfl, hb8⟩

end Go.Proofs.Ytahnpbgbekbfhab.orderKept
