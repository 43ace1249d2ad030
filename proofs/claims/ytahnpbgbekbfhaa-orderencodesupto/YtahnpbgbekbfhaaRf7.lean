/- The document's answer: a list of items laid down. -/
import Derived.Test.YtahnpbgbekbfhaaRf6
import Derived.Test.YtahnpbgbekbfhaaRf4
namespace Go.Proofs.Ytahnpbgbekbfhaa
open Go.RowKit

theorem DocB.grown {w w' : World} {g : Nat} {x : It} {r : Option Nat} (h : DocB w g x) (hg : w.grownBy w' r) (hne : r ≠ some g) : DocB w' g x := by
  unfold DocB; rw [hg.block g h.lt (fun e => hne e.symm)]; exact h
theorem kindD {w1 w4 : World} {base g : Nat} {v v4 : Value} {ys : List Nat} {x : It} {ob : Obj} (D1 : DocB w1 g x) (hv : v.ownBlock ≠ some g) (hown4 : OwnB w4 base v4 ys)
    (hg4 : (w1.alloc ob).grownBy w4 v.ownBlock) (hat4 : v4.ownBlock = v.ownBlock ∨ v4.ownBlock = some (w1.heap.size + 1)) :
    App w1 w4 base v v4 ys ∧ DocB w4 g x ∧ v4.ownBlock ≠ some g := by
  have hl := D1.lt
  refine ⟨App.byte hown4 hg4 hat4, (D1.below ((Below.refl _ _).alloc (Nat.le_refl _) _) hl).grown hg4 hv, ?_⟩
  rcases hat4 with e | e
  · rw [e]; exact hv
  · rw [e]; simp; omega
theorem App.docs {w w' : World} {base g : Nat} {v r : Value} {zs : List Nat} {x : It} (h : App w w' base v r zs) (D : DocB w g x) (hv : v.ownBlock ≠ some g) : DocB w' g x ∧ r.ownBlock ≠ some g := by
  have hl := D.lt
  refine ⟨D.grown h.grown hv, ?_⟩
  rcases h.at_ with e | ⟨j, e, hj⟩
  · rw [e]; exact hv
  · rw [e]; simp; omega
theorem wrap_top {n : Int} (h1 : -9223372036854775808 ≤ n) (h2 : n ≤ 9223372036854775807) : IntKind.u64.wrap (IntKind.u64.wrap n + 9223372036854775808) = (((n + 9223372036854775808).toNat : Nat) : Int) := by
  simp [IntKind.wrap, IntKind.bits, IntKind.signed]; omega

set_option maxRecDepth 100000 in
set_option maxHeartbeats 4000000 in
theorem rencode_any (a : Option Addr) (cap : Nat) (xs : List It) (w : World) (hr : RowR w a xs) (hok : AllOk xs) (hlm : xs.length ≤ 140737488355328) :
    Calls Try.prog 25 #[.slice a xs.length cap] w fun e w' => e = .returned (.tuple #[.string (strOf (encRes xs).1), .int .i64 (encRes xs).2]) ∧ Below w.heap.size w w' := by
  by_cases hlong : 64 < xs.length
  · have e : encRes xs = ([], 3) := by unfold encRes; rw [if_pos hlong]
    rw [e]
    have hd : decide ((64 : Int) < (xs.length : Int)) = true := by simp; omega
    clear hr
    go_enter Try.func25, Try.ntmps25
    go_wp2_with fail
    go_ret2
    exact ⟨rfl, Below.refl _ _⟩
  · have hd : decide ((64 : Int) < (xs.length : Int)) = false := by simp; omega
    obtain ⟨res, hres⟩ : ∃ z, z = encRes xs := ⟨_, rfl⟩
    rw [← hres]
    unfold encRes at hres
    rw [if_neg hlong] at hres
    have HR := hide_it hres
    have HX := hide_it hr
    clear hres hr
    go_enter Try.func25, Try.ntmps25
    go_wp2_with fail
    go_loopw [4, 5] (fun r i wr => ∃ k : Nat, k ≤ xs.length ∧ i = .int .i64 (k : Int) ∧ Below w.heap.size w wr ∧ OwnB wr w.heap.size r (encAll (xs.take k)) ∧ Hid ((xs.take k).all may = true)) (fun _ i _ => xs.length - (intOf i).toNat)
    case atStart => exact ⟨0, by omega, rfl, Below.refl _ _, World.ownsRow_nil _ _ _ _, by simp [Hid]⟩
    case round =>
      obtain ⟨k, hk, rfl, hbl, how, hall⟩ := hrel
      have hbs := hbl.size
      by_cases hlt : k < xs.length
      · obtain ⟨bb, oo, rfl, hbb, hat⟩ := HX.out.here hlt
        have hat2 := hat.below hbl hbb
        have hxk := hok xs[k] (List.getElem_mem hlt)
        have hsn := takeI_snoc hlt
        have hel := encAll_len (xs := xs.take k) (fun x hx => hok x (List.mem_of_mem_take hx))
        have htk : (xs.take k).length ≤ 63 := by simp; omega
        obtain ⟨x, hx⟩ : ∃ x, x = xs[k] := ⟨_, rfl⟩
        rw [← hx] at hat2 hxk hsn
        have HSN := hide_it hsn
        have HXM : Hid (x ∈ xs) := by rw [hx]; exact List.getElem_mem hlt
        clear hx hat hsn
        obtain ⟨c0, c1, c2, c3, c4, c5, c6⟩ := hat2
        have hd1 : decide ((k : Int) < (xs.length : Int)) = true := by simp; omega
        have hm := fun w => rcheck_any x w hxk.1
        have D0 := DocB.new wr x
        have hbw : Below wr.heap.size wr (wr.alloc (.cells #[.int .i64 x.k, .bool x.b, .int .i64 x.n, .int .u64 (x.f : Int), .int .u64 (x.r : Int), .int .u64 (x.i : Int), .string x.t] 32)) := (Below.refl _ _).alloc (Nat.le_refl _) _
        have hkl : (k : Int) < 65 := by omega
        cases hmx : may x with
        | false =>
          rw [hmx] at hm
          simp only [Bool.false_eq_true, if_false] at hm
          go_wp2_with fail
          refine (hm _).mono ?_
          rintro e w1 ⟨rfl, hb1⟩
          have hb2 := hbl.trans (hbw.mono hbs)
          have hb3 := hb2.trans (hb1.mono hb2.size)
          clear hm D0 hbw hb1 hb2 c0 c1 c2 c3 c4 c5 c6
          go_wp2_with fail
          go_ret2
          have hno : xs.all may = false := by
            cases hv : xs.all may with
            | false => rfl
            | true => rw [List.all_eq_true.1 hv x HXM.out] at hmx; cases hmx
          refine ⟨?_, hb3⟩
          rw [HR.out, hno]
          rfl
        | true =>
          rw [hmx] at hm
          simp only [if_true] at hm
          go_wp2_with fail
          refine (hm _).mono ?_
          rintro e w1 ⟨rfl, hb1⟩
          have hb2 := hbl.trans (hbw.mono hbs)
          have hb3 := hb2.trans (hb1.mono hb2.size)
          have how1 := (how.below hbw).below hb1
          have D1 := D0.below hb1 (by simp)
          have hgl : wr.heap.size < w1.heap.size := D1.lt
          have hvg : u4.ownBlock ≠ some wr.heap.size := fun e => by have := how.inside _ e; omega
          have hkb := may_kind hmx
          have hbs1 : w.heap.size ≤ w1.heap.size := hb3.size
          have HMX := hide_it hmx
          have HXK := hide_it hxk
          have hts := hxk.2
          have fin : ∀ (r : Value) (w' : World) (zs : List Nat), App w1 w' w.heap.size u4 r zs → zs = encAll (xs.take k) ++ encI x → Below w.heap.size w w' ∧ OwnB w' w.heap.size r (encAll (xs.take (k + 1))) ∧ Hid ((xs.take (k + 1)).all may = true) := fun r w' zs A hz => by
            refine ⟨hb3.trans (A.below how1 hbs1), ?_, ?_⟩
            · rw [HSN.out, encAll_snoc, ← hz]; exact A.own
            · unfold Hid
              rw [HSN.out, List.all_append, hall.out]
              simp [HMX.out]
          have FIN := hide_it fin
          clear hm D0 hbw hb1 hb2 how hmx hxk fin
          obtain ⟨c0', c1', c2', c3', c4', c5', c6'⟩ := D1.cells
          clear c0 c1 c2 c3 c4 c5 c6
          obtain ⟨kk, b, n, f, r, i, t⟩ := x
          simp only at c0' c1' c2' c3' c4' c5' c6' hkb hts
          generalize hZ : encAll (xs.take k) = Z at *
          clear hZ
          by_cases h1 : kk = 1
          · subst h1
            go_wp2_with (at_builtin; refine wpList_append_byte _ rfl _ _ rfl w.heap.size _ _ rfl how1 1 rfl (by omega) hbs1 ?_; intro v4 w4 hown4 hg4 hat4; obtain ⟨A4, D4, N4⟩ := kindD D1 hvg hown4 hg4 hat4; have hb4 : w.heap.size ≤ w4.heap.size := Nat.le_trans hbs1 A4.grown.size; have how4 := A4.own; have hl4 : (Z ++ [1]).length = Z.length + 1 := (by simp); obtain ⟨d0, d1, d2, d3, d4, d5, d6⟩ := D4.cells; simp only at d0 d1 d2 d3 d4 d5 d6; clear how1 hown4 hg4 hat4 c0' c1' c2' c3' c4' c5' c6')
            go_roundw
            case rel =>
              obtain ⟨f1, f2, f3⟩ := FIN.out _ _ _ (A4) (by unfold encI body; simp)
              exact ⟨k + 1, by omega, by go_num, f1, f2, f3⟩
            case measure => simp [intOf]; omega
          by_cases h2 : kk = 2
          · subst h2
            cases b
            · go_wp2_with (first | (at_builtin; refine wpList_append_byte _ rfl _ _ rfl w.heap.size _ _ rfl how1 2 rfl (by omega) hbs1 ?_; intro v4 w4 hown4 hg4 hat4; obtain ⟨A4, D4, N4⟩ := kindD D1 hvg hown4 hg4 hat4; have hb4 : w.heap.size ≤ w4.heap.size := Nat.le_trans hbs1 A4.grown.size; have how4 := A4.own; have hl4 : (Z ++ [2]).length = Z.length + 1 := (by simp); obtain ⟨d0, d1, d2, d3, d4, d5, d6⟩ := D4.cells; simp only at d0 d1 d2 d3 d4 d5 d6; clear how1 hown4 hg4 hat4 c0' c1' c2' c3' c4' c5' c6') | (at_builtin; refine wpList_append_byte _ rfl _ _ rfl w.heap.size _ _ rfl how4 0 rfl (by omega) hb4 ?_; intro v5 w5 hown5 hg5 hat5))
              go_roundw
              case rel =>
                obtain ⟨f1, f2, f3⟩ := FIN.out _ _ _ (A4.trans (App.byte hown5 hg5 hat5)) (by unfold encI body; simp)
                exact ⟨k + 1, by omega, by go_num, f1, f2, f3⟩
              case measure => simp [intOf]; omega
            · go_wp2_with (first | (at_builtin; refine wpList_append_byte _ rfl _ _ rfl w.heap.size _ _ rfl how1 2 rfl (by omega) hbs1 ?_; intro v4 w4 hown4 hg4 hat4; obtain ⟨A4, D4, N4⟩ := kindD D1 hvg hown4 hg4 hat4; have hb4 : w.heap.size ≤ w4.heap.size := Nat.le_trans hbs1 A4.grown.size; have how4 := A4.own; have hl4 : (Z ++ [2]).length = Z.length + 1 := (by simp); obtain ⟨d0, d1, d2, d3, d4, d5, d6⟩ := D4.cells; simp only at d0 d1 d2 d3 d4 d5 d6; clear how1 hown4 hg4 hat4 c0' c1' c2' c3' c4' c5' c6') | (at_builtin; refine wpList_append_byte _ rfl _ _ rfl w.heap.size _ _ rfl how4 1 rfl (by omega) hb4 ?_; intro v5 w5 hown5 hg5 hat5))
              go_roundw
              case rel =>
                obtain ⟨f1, f2, f3⟩ := FIN.out _ _ _ (A4.trans (App.byte hown5 hg5 hat5)) (by unfold encI body; simp)
                exact ⟨k + 1, by omega, by go_num, f1, f2, f3⟩
              case measure => simp [intOf]; omega
          by_cases h3 : kk = 3
          · subst h3
            have hwt := wrap_top HXK.out.1.n1 HXK.out.1.n2
            simp only at hwt
            have hun : (n + 9223372036854775808).toNat < 18446744073709551616 := by have h1 := HXK.out.1.n1; have h2 := HXK.out.1.n2; simp only at h1 h2; omega
            obtain ⟨m, hm⟩ : ∃ m, m = (n + 9223372036854775808).toNat := ⟨_, rfl⟩
            rw [← hm] at hwt hun
            have HM := hide_it hm
            have HUN := hide_it hun
            clear hm hun
            go_wp2_with (at_builtin; refine wpList_append_byte _ rfl _ _ rfl w.heap.size _ _ rfl how1 3 rfl (by omega) hbs1 ?_; intro v4 w4 hown4 hg4 hat4; obtain ⟨A4, D4, N4⟩ := kindD D1 hvg hown4 hg4 hat4; have hb4 : w.heap.size ≤ w4.heap.size := Nat.le_trans hbs1 A4.grown.size; have how4 := A4.own; have hl4 : (Z ++ [3]).length = Z.length + 1 := (by simp); obtain ⟨d0, d1, d2, d3, d4, d5, d6⟩ := D4.cells; simp only at d0 d1 d2 d3 d4 d5 d6; clear how1 hown4 hg4 hat4 c0' c1' c2' c3' c4' c5' c6')
            refine (reight_any _ m w.heap.size _ _ HUN.out how4 hb4 (by omega)).mono ?_
            rintro e w5 ⟨r5, rfl, A5⟩
            go_wp2_with fail
            go_roundw
            case rel =>
              obtain ⟨f1, f2, f3⟩ := FIN.out _ _ _ (A4.trans A5) (by unfold encI body; rw [HM.out]; simp)
              exact ⟨k + 1, by omega, by go_num, f1, f2, f3⟩
            case measure => simp [intOf]; omega
          by_cases h4 : kk = 4
          · subst h4
            have hfl := HXK.out.1.f
            simp only at hfl
            have HFL := hide_it hfl
            clear hfl
            go_wp2_with (at_builtin; refine wpList_append_byte _ rfl _ _ rfl w.heap.size _ _ rfl how1 4 rfl (by omega) hbs1 ?_; intro v4 w4 hown4 hg4 hat4; obtain ⟨A4, D4, N4⟩ := kindD D1 hvg hown4 hg4 hat4; have hb4 : w.heap.size ≤ w4.heap.size := Nat.le_trans hbs1 A4.grown.size; have how4 := A4.own; have hl4 : (Z ++ [4]).length = Z.length + 1 := (by simp); obtain ⟨d0, d1, d2, d3, d4, d5, d6⟩ := D4.cells; simp only at d0 d1 d2 d3 d4 d5 d6; clear how1 hown4 hg4 hat4 c0' c1' c2' c3' c4' c5' c6')
            refine (rfloat_any _ f w.heap.size _ _ HFL.out how4 hb4 (by omega)).mono ?_
            rintro e w5 ⟨r5, rfl, A5⟩
            go_wp2_with fail
            go_roundw
            case rel =>
              obtain ⟨f1, f2, f3⟩ := FIN.out _ _ _ (A4.trans A5) (by unfold encI body; simp)
              exact ⟨k + 1, by omega, by go_num, f1, f2, f3⟩
            case measure => simp [intOf]; omega
          by_cases h5 : kk = 5
          · subst h5
            have hfl := HXK.out.1.r
            have hfi := HXK.out.1.i
            simp only at hfl hfi
            have HFL := hide_it hfl
            have HFI := hide_it hfi
            clear hfl hfi
            go_wp2_with (at_builtin; refine wpList_append_byte _ rfl _ _ rfl w.heap.size _ _ rfl how1 5 rfl (by omega) hbs1 ?_; intro v4 w4 hown4 hg4 hat4; obtain ⟨A4, D4, N4⟩ := kindD D1 hvg hown4 hg4 hat4; have hb4 : w.heap.size ≤ w4.heap.size := Nat.le_trans hbs1 A4.grown.size; have how4 := A4.own; have hl4 : (Z ++ [5]).length = Z.length + 1 := (by simp); obtain ⟨d0, d1, d2, d3, d4, d5, d6⟩ := D4.cells; simp only at d0 d1 d2 d3 d4 d5 d6; clear how1 hown4 hg4 hat4 c0' c1' c2' c3' c4' c5' c6')
            refine (rfloat_any _ r w.heap.size _ _ HFL.out how4 hb4 (by omega)).mono ?_
            rintro e w5 ⟨r5, rfl, A5⟩
            obtain ⟨D5, N5⟩ := A5.docs D4 N4
            have A45 := A4.trans A5
            have hb5 : w.heap.size ≤ w5.heap.size := Nat.le_trans hbs1 A45.grown.size
            have how5 := A45.own
            have hl5 : (Z ++ [5] ++ beP 8 (rise r) 8).length = Z.length + 9 := by simp [beP_len]
            obtain ⟨g0, g1, g2, g3, g4, g5, g6⟩ := D5.cells
            simp only at g0 g1 g2 g3 g4 g5 g6
            clear d0 d1 d2 d3 d4 d5 d6 how4 A4 A5 D4
            go_wp2_with fail
            refine (rfloat_any _ i w.heap.size _ _ HFI.out how5 hb5 (by omega)).mono ?_
            rintro e w6 ⟨r6, rfl, A6⟩
            go_wp2_with fail
            go_roundw
            case rel =>
              obtain ⟨f1, f2, f3⟩ := FIN.out _ _ _ (A45.trans A6) (by unfold encI body; simp)
              exact ⟨k + 1, by omega, by go_num, f1, f2, f3⟩
            case measure => simp [intOf]; omega
          have h6 : kk = 6 := by omega
          subst h6
          go_wp2_with (at_builtin; refine wpList_append_byte _ rfl _ _ rfl w.heap.size _ _ rfl how1 6 rfl (by omega) hbs1 ?_; intro v4 w4 hown4 hg4 hat4; obtain ⟨A4, D4, N4⟩ := kindD D1 hvg hown4 hg4 hat4; have hb4 : w.heap.size ≤ w4.heap.size := Nat.le_trans hbs1 A4.grown.size; have how4 := A4.own; have hl4 : (Z ++ [6]).length = Z.length + 1 := (by simp); obtain ⟨d0, d1, d2, d3, d4, d5, d6⟩ := D4.cells; simp only at d0 d1 d2 d3 d4 d5 d6; clear how1 hown4 hg4 hat4 c0' c1' c2' c3' c4' c5' c6')
          generalize hgz : wr.heap.size = g at *
          clear hgz
          have htsz : t.size ≤ 1073741824 := hts
          go_loopw [4, 7] (fun rr j wr2 => ∃ m : Nat, m ≤ t.size ∧ j = .int .i64 (m : Int) ∧ App w1 wr2 w.heap.size u4 rr (Z ++ [6] ++ esc ((strNat t).take m)) ∧ DocB wr2 g ⟨6, b, n, f, r, i, t⟩ ∧ rr.ownBlock ≠ some g) (fun _ j _ => t.size - (intOf j).toNat)
          case atStart => exact ⟨0, by omega, rfl, by simpa [esc] using A4, D4, N4⟩
          case round =>
            obtain ⟨m, hmt, rfl, hap, Dm, Nm⟩ := hrel
            obtain ⟨e0, e1, e2, e3, e4, e5, e6⟩ := Dm.cells
            simp only at e0 e1 e2 e3 e4 e5 e6
            have howm := hap.own
            have hbm := Nat.le_trans hbs1 hap.grown.size
            have helm := esc_len ((strNat t).take m)
            have htlm : ((strNat t).take m).length ≤ m := by simp; omega
            have hlenm : (Z ++ [6] ++ esc ((strNat t).take m)).length + 2 ≤ 140737488355328 := by rw [List.length_append]; omega
            clear d0 d1 d2 d3 d4 d5 d6 A4 D4 N4 how4 hb4
            by_cases hltm : m < t.size
            · have hdm : decide ((m : Int) < (t.size : Int)) = true := by simp; omega
              have hsnm := take_snoc (bs := strNat t) (k := m) (by rw [strNat_len]; exact hltm)
              have hz8 : at0 (strNat t) m < 256 := (strNat_all t).at m
              have hix := str_at hltm
              have hes := esc_snoc ((strNat t).take m) (at0 (strNat t) m)
              rw [← hsnm] at hes
              have HE := hide_it hes
              clear hsnm hes
              generalize at0 (strNat t) m = z at *
              by_cases hz : z = 0
              · subst hz
                go_wp2_with (at_builtin; first | (refine wpList_append_byte _ rfl _ _ rfl w.heap.size _ _ rfl howm 0 rfl (by omega) hbm ?_; intro v5 w5 hown5 hg5 hat5; obtain ⟨A5, D5, N5⟩ := kindD Dm Nm hown5 hg5 hat5; have hap5 := hap.trans A5; have hbm5 := Nat.le_trans hbs1 hap5.grown.size; have how5 := hap5.own; have hlen5 : (Z ++ [6] ++ esc ((strNat t).take m) ++ [0]).length + 1 ≤ 140737488355328 := (by rw [List.length_append]; simp at hlenm ⊢; omega); obtain ⟨k0, k1, k2, k3, k4, k5, k6⟩ := D5.cells; simp only at k0 k1 k2 k3 k4 k5 k6; clear howm hap hown5 hg5 hat5 e0 e1 e2 e3 e4 e5 e6) | (refine wpList_append_byte _ rfl _ _ rfl w.heap.size _ _ rfl how5 255 rfl (by omega) hbm5 ?_; intro v6 w6 hown6 hg6 hat6))
                go_roundw
                case rel =>
                  obtain ⟨A6, D6, N6⟩ := kindD D5 N5 hown6 hg6 hat6
                  refine ⟨m + 1, by omega, by go_num, ?_, D6, N6⟩
                  have := hap5.trans A6
                  rw [HE.out]
                  simpa using this
                case measure => simp [intOf]; omega
              · have hdz : ((z : Int) == 0) = false := by simp; omega
                go_wp2_with (at_builtin; refine wpList_append_byte _ rfl _ _ rfl w.heap.size _ _ rfl howm z rfl (by omega) hbm ?_; intro v5 w5 hown5 hg5 hat5; obtain ⟨A5, D5, N5⟩ := kindD Dm Nm hown5 hg5 hat5; have hap5 := hap.trans A5; obtain ⟨k0, k1, k2, k3, k4, k5, k6⟩ := D5.cells; simp only at k0 k1 k2 k3 k4 k5 k6; clear howm hap hown5 hg5 hat5 e0 e1 e2 e3 e4 e5 e6)
                go_roundw
                case rel =>
                  refine ⟨m + 1, by omega, by go_num, ?_, D5, N5⟩
                  rw [HE.out, if_neg hz]
                  simpa using hap5
                case measure => simp [intOf]; omega
            · have hdm : decide ((m : Int) < (t.size : Int)) = false := by simp; omega
              have htk2 : (strNat t).take m = strNat t := List.take_of_length_le (by rw [strNat_len]; omega)
              have HT2 := hide_it htk2
              clear htk2
              have hrow := row_lit wr [0, 1]
              have how2 := howm.below (w' := wr.alloc (.cells #[.int .u8 0, .int .u8 1] 5)) ((Below.refl _ _).alloc (Nat.le_refl _) _)
              go_wp2_with (at_builtin; refine wpList_append_row _ rfl _ _ rfl w.heap.size _ _ rfl how2 (some ⟨wr.heap.size, 0, none⟩) 2 [0, 1] rfl hrow (fun e => by cases e) (by simp at hlenm ⊢; omega) (by simp; omega) ?_; intro v5 w5 hown5 hg5 hat5)
              have hap5 := hap.trans (App.byte hown5 hg5 (hat5.imp_right fun e => e.trans (by simp)))
              go_roundw
              case rel =>
                obtain ⟨f1, f2, f3⟩ := FIN.out _ _ _ hap5 (by rw [HT2.out]; unfold encI body; simp)
                exact ⟨k + 1, by omega, by go_num, f1, f2, f3⟩
              case measure => simp [intOf]; omega
      · have hd1 : decide ((k : Int) < (xs.length : Int)) = false := by simp; omega
        have htk : xs.take k = xs := List.take_of_length_le (by omega)
        rw [htk] at how hall
        obtain ⟨p1, q1, rfl, hp1, _, _, hn1⟩ := how.row
        have hcv := conv_row hp1 hn1
        go_wp2_with fail
        go_ret2
        refine ⟨?_, hbl⟩
        rw [HR.out, hall.out]
        rfl

end Go.Proofs.Ytahnpbgbekbfhaa
