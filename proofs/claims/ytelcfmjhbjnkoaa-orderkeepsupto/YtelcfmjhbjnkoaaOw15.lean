/- Lists of items compared by the program; the law's own items. -/
import Derived.Test.YtelcfmjhbjnkoaaOw14
namespace Go.Proofs.Ytelcfmjhbjnkoaa
open Go.RowKit

attribute [local go_sem] st_float st_complex fromBits toBits

set_option maxRecDepth 100000 in
set_option maxHeartbeats 1000000 in
theorem compareFunc_any (a b : Option Addr) (ca cb_ : Nat) (xs ys : List It) (w : World) (hx : RowI w a xs) (hy : RowI w b ys) (hxo : ∀ x ∈ xs, ItOk x) (hyo : ∀ y ∈ ys, ItOk y) (hlx : xs.length ≤ 140737488355328) (hly : ys.length ≤ 140737488355328) :
    Calls Try.prog 19 #[.slice a xs.length ca, .slice b ys.length cb_, .func (.func 16) #[] #[]] w fun e w' => e = .returned (.int .i64 (cmpAll xs ys)) ∧ Below w.heap.size w w' := by
  obtain ⟨res, hres⟩ : ∃ z, z = cmpAll xs ys := ⟨_, rfl⟩
  rw [← hres]
  have HRES := hide_it hres
  have HX := hide_it hx
  have HY := hide_it hy
  have HXO := hide_it hxo
  have HYO := hide_it hyo
  clear hres hx hy hxo hyo
  go_enter Try.func19, Try.ntmps19
  go_wp2_with fail
  go_loopw [13] (fun i wr => ∃ k : Nat, k ≤ xs.length ∧ k ≤ ys.length ∧ i = .int .i64 (k : Int) ∧ Below w.heap.size w wr ∧ Hid (res = cmpAll (xs.drop k) (ys.drop k))) (fun i _ => xs.length - (intOf i).toNat)
  case atStart => exact ⟨0, by omega, by omega, rfl, Below.refl _ _, HRES⟩
  case round =>
    obtain ⟨k, hkx, hky, rfl, hbl, hto⟩ := hrel
    have hbs := hbl.size
    by_cases hlt : k < xs.length
    · obtain ⟨bb, oo, rfl, hbb, hat⟩ := HX.out.here hlt
      have hat2 := hat.below hbl hbb
      have hxk := HXO.out xs[k] (List.getElem_mem hlt)
      have hdx : xs.drop k = xs[k] :: xs.drop (k + 1) := List.drop_eq_getElem_cons hlt
      obtain ⟨x, hxe⟩ : ∃ x, x = xs[k] := ⟨_, rfl⟩
      rw [← hxe] at hat2 hxk hdx
      have HDX := hide_it hdx
      have hcmp1 : decide ((k : Int) < (xs.length : Int)) = true := by simp; omega
      have B0 := BoxI.new wr x
      have hbA : Below wr.heap.size wr (wr.alloc (.cells #[.int .i64 x.k, .bool x.b, .int .i64 x.n, .float .f64 x.f, .complex .f64 x.r x.i, .string x.t] 29)) := (Below.refl _ _).alloc (Nat.le_refl _) _
      have hbl2 := hbl.trans (hbA.mono hbs)
      have HBL2 := hide_it hbl2
      clear hxe hat hdx B0
      obtain ⟨c0, c1, c2, c3, c4, c5⟩ := hat2
      by_cases hlty : k < ys.length
      · obtain ⟨b2, o2, rfl, hb2, hatb⟩ := HY.out.here hlty
        have hatb2 := (hatb.below hbl hb2).below hbA (Nat.lt_of_lt_of_le hb2 hbs)
        have hatb1 := hatb.below hbl hb2
        have hyk := HYO.out ys[k] (List.getElem_mem hlty)
        have hdy : ys.drop k = ys[k] :: ys.drop (k + 1) := List.drop_eq_getElem_cons hlty
        obtain ⟨y, hye⟩ : ∃ y, y = ys[k] := ⟨_, rfl⟩
        rw [← hye] at hatb2 hatb1 hyk hdy
        have HDY := hide_it hdy
        clear hye hatb hdy
        obtain ⟨d0, d1, d2, d3, d4, d5⟩ := hatb1
        have hcmp2 : decide ((ys.length : Int) ≤ (k : Int)) = false := by simp; omega
        have hb2w : b2 < wr.heap.size := Nat.lt_of_lt_of_le hb2 hbs
        have hne2 : ¬ b2 = wr.heap.size := by omega
        have hcp := fun w => compare_any x y w hxk hyk
        have hto2 := hto.out
        rw [HDX.out, HDY.out] at hto2
        rw [show cmpAll (x :: xs.drop (k + 1)) (y :: ys.drop (k + 1)) = orI (cmpIt x y) (cmpAll (xs.drop (k + 1)) (ys.drop (k + 1))) from rfl] at hto2
        have HTO := hide_it hto2
        clear hto2 hto
        generalize cmpIt x y = c at *
        clear hbA hbl2 hatb2 hkx hky
        go_wp2_with fail
        refine (hcp _).mono ?_
        rintro e w1 ⟨rfl, hb1⟩
        have hblA := HBL2.out.alloc HBL2.out.size (.cells #[.int .i64 y.k, .bool y.b, .int .i64 y.n, .float .f64 y.f, .complex .f64 y.r y.i, .string y.t] 29)
        have hbl3 := hblA.trans (hb1.mono (by have := hblA.size; simpa using this))
        clear hcp c0 c1 c2 c3 c4 c5 d0 d1 d2 d3 d4 d5
        by_cases hc : c = 0
        · subst hc
          go_wp2_with fail
          go_roundw
          case rel => exact ⟨k + 1, by omega, by omega, by go_num, hbl3, by unfold Hid; rw [HTO.out, orI_nil]⟩
          case measure => simp [intOf]; omega
        · have hcb : (c == 0) = false := by simpa using hc
          go_wp2_with fail
          go_ret
          exact ⟨by rw [HTO.out, orI_ne hc]; rfl, hbl3⟩
      · have hcmp2 : decide ((ys.length : Int) ≤ (k : Int)) = true := by simp; omega
        have hyn : ys.drop k = [] := List.drop_eq_nil_of_le (by omega)
        have hto2 := hto.out
        rw [HDX.out, hyn] at hto2
        have HTO := hide_it hto2
        clear hto2 hto hyn hbA hbl2 hkx hky
        go_wp2_with fail
        go_ret
        exact ⟨by rw [HTO.out]; rfl, HBL2.out⟩
    · have hcmp1 : decide ((k : Int) < (xs.length : Int)) = false := by simp; omega
      have hxn : xs.drop k = [] := List.drop_eq_nil_of_le (by omega)
      by_cases hly2 : xs.length < ys.length
      · have hcmp3 : decide ((xs.length : Int) < (ys.length : Int)) = true := by simp; omega
        have hdy : ys.drop k = ys[k] :: ys.drop (k + 1) := List.drop_eq_getElem_cons (by omega)
        have hto2 := hto.out
        rw [hxn, hdy] at hto2
        have HTO := hide_it hto2
        clear hto2 hto hxn hdy
        go_wp2_with fail
        go_ret
        exact ⟨by rw [HTO.out]; rfl, hbl⟩
      · have hcmp3 : decide ((xs.length : Int) < (ys.length : Int)) = false := by simp; omega
        have hyn : ys.drop k = [] := List.drop_eq_nil_of_le (by omega)
        have hto2 := hto.out
        rw [hxn, hyn] at hto2
        have HTO := hide_it hto2
        clear hto2 hto hxn hyn
        go_wp2_with fail
        go_ret
        exact ⟨by rw [HTO.out]; rfl, hbl⟩

set_option maxRecDepth 100000 in
set_option maxHeartbeats 400000 in
theorem compareAll_any (a b : Option Addr) (ca cb_ : Nat) (xs ys : List It) (w : World) (hx : RowI w a xs) (hy : RowI w b ys) (hxo : ∀ x ∈ xs, ItOk x) (hyo : ∀ y ∈ ys, ItOk y) (hlx : xs.length ≤ 140737488355328) (hly : ys.length ≤ 140737488355328) :
    Calls Try.prog 8 #[.slice a xs.length ca, .slice b ys.length cb_] w fun e w' => e = .returned (.int .i64 (cmpAll xs ys)) ∧ Below w.heap.size w w' := by
  have hc := compareFunc_any a b ca cb_ xs ys w hx hy hxo hyo hlx hly
  clear hx hy hxo hyo
  generalize cmpAll xs ys = r at *
  go_enter Try.func8, Try.ntmps8
  go_wp2_with fail
  refine hc.mono ?_
  rintro e w1 ⟨rfl, hb⟩
  go_wp2_with fail
  go_ret
  exact ⟨rfl, hb⟩

end Go.Proofs.Ytelcfmjhbjnkoaa
