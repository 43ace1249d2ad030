/- Take, of the program and of the document. -/
import Derived.Test.YthlkegemkkepgaaCk5
namespace Go.Proofs.Ythlkegemkkepgaa
open Go.RowKit

set_option maxRecDepth 100000 in
set_option maxHeartbeats 2000000 in
theorem take_any (a : Option Addr) (n ca : Nat) (C : Nat → Ck) (P : Nat → Nat) (b : Option Addr) (cb : Nat) (ps : List Int) (w : World) (hr : RowPt w a n C P) (hpk : ∀ i, i < n → Pk w (P i) (C i)) (hok : ∀ i, i < n → CkOk (C i)) (hps : RowI w b ps) (hn : n ≤ 17592186043904) (hl : ps.length ≤ 4611686018427387904) :
    Calls Try.prog 21 #[.slice a n ca, .slice b ps.length cb] w fun e w' => (∃ r, e = .returned r ∧ OwI w' w.heap.size r (vecOf n C ps)) ∧ Below w.heap.size w w' := by
  have hmk := run_make_row' (P := Try.prog) 45 3 (.int .i64 0) 8 Try.underlying45 infoN rfl .i64 .i64 n (by omega) (by omega)
  have hv0 := vec_made w n
  have hb0 : Below w.heap.size w (w.alloc (.cells (madeCells #[.int .i64 0] n) 3)) := (Below.refl _ _).alloc (Nat.le_refl _) _
  go_enter Try.func21, Try.ntmps21
  go_wp2_with fail
  clear hmk
  obtain ⟨W0, hW0⟩ : ∃ W0, W0 = w.alloc (.cells (madeCells #[.int .i64 0] n) 3) := ⟨_, rfl⟩
  rw [← hW0] at hv0 hb0 ⊢
  obtain ⟨g, hg⟩ : ∃ g, g = w.heap.size := ⟨_, rfl⟩
  rw [← hg] at hv0 ⊢
  have hgb : w.heap.size ≤ g := by omega
  clear hW0
  have Hg := hide_it hg
  clear hg
  go_loopw [14] (fun i wr => ∃ k : Nat, k ≤ n ∧ i = .int .i64 k ∧ Vec wr g n (fun i => if i < k then -1 else 0) ∧ Below w.heap.size w wr) (fun i _ => n - (intOf i).toNat)
  case atStart => exact ⟨0, by omega, rfl, hv0.congr (fun i _ => by simp), hb0⟩
  case round =>
    obtain ⟨k, hk, rfl, hv, hbl⟩ := hrel
    clear hv0 hb0
    by_cases hlt : k < n
    · have hki : (k : Int) < (n : Int) := by omega
      obtain ⟨q1, q2⟩ := hv.cell hlt
      have hw1 : IntKind.i64.wrap ((k : Int) + 1) = (k : Int) + 1 := i64_in (by omega) (by omega)
      have HV := hide_it ((hv.set k (-1)).congr (f' := fun i => if i < k + 1 then -1 else 0) (fun i hi => by
        by_cases e : i = k
        · subst e; simp
        · simp only [if_neg e]; by_cases h2 : i < k
          · rw [if_pos h2, if_pos (by omega)]
          · rw [if_neg h2, if_neg (by omega)]))
      have HB := hide_it (hbl.setCell (p := ⟨g, k, none⟩) hgb (.int .i64 (-1)))
      clear hv hbl
      go_wp2
      go_roundw
      case rel => exact ⟨k + 1, by omega, by go_num, HV.out, HB.out⟩
      case measure => simp [intOf]; omega
    · obtain rfl : k = n := by omega
      have hv1 := hv.congr (f' := seen C (ps.take 0)) (fun i hi => by simp [hi, seen_nil])
      clear hv hlt
      go_wp2
      go_loopw [23] (fun i wr => ∃ j : Nat, j ≤ ps.length ∧ i = .int .i64 j ∧ Vec wr g k (seen C (ps.take j)) ∧ Below w.heap.size w wr) (fun i _ => ps.length - (intOf i).toNat)
      case atStart => exact ⟨0, by omega, rfl, hv1, hbl⟩
      case round =>
        clear hv1 hbl
        obtain ⟨j, hj, rfl, hv, hbl⟩ := hrel
        by_cases hlt : j < ps.length
        · have hji : (j : Int) < (ps.length : Int) := by omega
          obtain ⟨b1, o1, rfl, l1, d1⟩ := hps.here hlt
          have e1 := (hbl.cell (p := ⟨b1, o1 + j, none⟩) l1).trans (d1 j hlt)
          have hw1 : IntKind.i64.wrap ((j : Int) + 1) = (j : Int) + 1 := i64_in (by omega) (by omega)
          have hth := isThere_any a k ca C P (atI ps j) wr (hr.below (hbl.mono (Nat.le_refl _)))
          have hsu := seen_succ hlt C
          obtain ⟨X, hX⟩ : ∃ X, X = atI ps j := ⟨_, rfl⟩
          rw [← hX] at e1 hth hsu
          clear d1 hX
          by_cases hin : 0 ≤ X ∧ X < k
          · obtain ⟨m, rfl⟩ : ∃ m : Nat, X = (m : Int) := ⟨X.toNat, by omega⟩
            have hm : m < k := by omega
            have et : thereB k C (m : Int) = (C m).t := by simp [thereB, hm]
            rw [et] at hth
            cases ht : (C m).t with
            | true =>
              obtain ⟨b2, o2, rfl, l2, d2⟩ := hr.here hm
              have e2 := (hbl.cell (p := ⟨b2, o2 + m, none⟩) l2).trans (d2 m hm)
              have hnow := now_any (C m) (hok m hm) (P m) wr ((hpk m hm).below hbl)
              obtain ⟨q1, q2⟩ := hv.cell hm
              have HV := hide_it ((hv.set m (C m).n).congr (f' := seen C (ps.take (j + 1))) (fun i hi => by
                show (if i = m then (C m).n else seen C (ps.take j) i) = _
                rw [hsu i]
                by_cases e : i = m
                · subst e; simp [ht]
                · rw [if_neg e, if_neg (fun x => e (by have := x.1; omega))]))
              have HB := hide_it (hbl.setCell (p := ⟨g, m, none⟩) hgb (.int .i64 (C m).n))
              rw [ht] at hth
              have hmi : (m : Int) < (k : Int) := by omega
              clear hv hbl hsu et ht d2 hin
              generalize ptrK (C m) (P m) = V at *
              generalize (C m).n = N at *
              go_wp2_with fail
              refine hth.mono ?_
              rintro e w3 ⟨rfl, hq⟩
              have hq2 := hq.symm
              subst hq2
              clear hq hth
              go_wp2_with fail
              refine hnow.mono ?_
              rintro e w4 ⟨rfl, hq⟩
              have hq2 := hq.symm
              subst hq2
              clear hq hnow
              go_wp2
              go_roundw
              case rel => exact ⟨j + 1, by omega, by go_num, HV.out, HB.out⟩
              case measure => simp [intOf]; omega
            | false =>
              have HV := hide_it (hv.congr (f' := seen C (ps.take (j + 1))) (fun i hi => by
                rw [hsu i, if_neg (fun x => by have h1 := x.1; have h2 := x.2; have : i = m := by omega
                                               subst this; rw [ht] at h2; cases h2)]))
              have HB := hide_it hbl
              rw [ht] at hth
              clear hv hbl hsu et ht hin
              go_wp2_with fail
              refine hth.mono ?_
              rintro e w3 ⟨rfl, hq⟩
              have hq2 := hq.symm
              subst hq2
              clear hq hth
              go_wp2
              go_roundw
              case rel => exact ⟨j + 1, by omega, by go_num, HV.out, HB.out⟩
              case measure => simp [intOf]; omega
          · have et : thereB k C X = false := by simp [thereB, hin]
            rw [et] at hth
            have HV := hide_it (hv.congr (f' := seen C (ps.take (j + 1))) (fun i hi => by
              rw [hsu i, if_neg (fun x => hin (by have h1 := x.1; omega))]))
            have HB := hide_it hbl
            clear hv hbl hsu et hin
            go_wp2_with fail
            refine hth.mono ?_
            rintro e w3 ⟨rfl, hq⟩
            have hq2 := hq.symm
            subst hq2
            clear hq hth
            go_wp2
            go_roundw
            case rel => exact ⟨j + 1, by omega, by go_num, HV.out, HB.out⟩
            case measure => simp [intOf]; omega
        · obtain rfl : j = ps.length := by omega
          rw [List.take_length] at hv
          have HO := hide_it (hv.own (by unfold maxLen; omega) hgb)
          have HB := hide_it hbl
          clear hv hbl
          go_wp2
          go_ret
          exact ⟨⟨_, rfl, HO.out⟩, HB.out⟩


set_option maxRecDepth 100000 in
set_option maxHeartbeats 2000000 in
theorem rtake_any (a : Option Addr) (n ca : Nat) (C : Nat → Ck) (b : Option Addr) (cb : Nat) (ps : List Int) (w : World) (hr : RowCk w a n C) (hps : RowI w b ps) (hn : n ≤ 17592186043904) (hl : ps.length ≤ 4611686018427387904) :
    Calls Try.prog 23 #[.slice a n ca, .slice b ps.length cb] w fun e w' => (∃ r, e = .returned r ∧ OwI w' w.heap.size r (vecOf n C ps)) ∧ Below w.heap.size w w' := by
  have hb0 : Below w.heap.size w (w.alloc (.cells #[] 3)) := (Below.refl _ _).alloc (Nat.le_refl _) _
  have ho0 := OwI.empty w
  obtain ⟨L, hL⟩ : ∃ L, L = ps.length := ⟨_, rfl⟩
  rw [← hL]
  have HL := hide_it hL
  rw [← hL] at hl
  clear hL
  go_enter Try.func23, Try.ntmps23
  go_wp2_with fail
  go_loopw [5, 6] (fun v i wr => ∃ k : Nat, k ≤ n ∧ i = .int .i64 k ∧ OwI wr w.heap.size v (vecOf k C ps) ∧ Below w.heap.size w wr) (fun _ i _ => n - (intOf i).toNat)
  case atStart => exact ⟨0, by omega, rfl, ho0, hb0⟩
  case round =>
    clear ho0 hb0
    obtain ⟨k, hk, rfl, ho, hbl⟩ := hrel
    by_cases hlt : k < n
    · have hki : (k : Int) < (n : Int) := by omega
      obtain ⟨b2, o2, rfl, l2, c0, c1, c2⟩ := hr.here hlt
      have d0 := (hbl.cell (p := ⟨b2, o2 + k * 3, none⟩) l2).trans c0
      have d1 := (hbl.cell (p := ⟨b2, o2 + k * 3 + 1, none⟩) l2).trans c1
      have hz := hbl.size
      have hw1 : IntKind.i64.wrap ((k : Int) + 1) = (k : Int) + 1 := i64_in (by omega) (by omega)
      obtain ⟨T, hT⟩ : ∃ T, T = (C k).t := ⟨_, rfl⟩
      obtain ⟨N, hN⟩ : ∃ N, N = (C k).n := ⟨_, rfl⟩
      rw [← hT] at d0
      rw [← hN] at d1
      have HT := hide_it hT
      have HN := hide_it hN
      have HO := hide_it ho
      have HB := hide_it hbl
      clear hT hN ho c0 c1 c2
      go_wp2_with fail
      go_loopw [7, 8] (fun v i wr' => ∃ (j : Nat) (x : Int), j ≤ L ∧ i = .int .i64 j ∧ v = .int .i64 x ∧ Hid (x = seen C (ps.take j) k) ∧ wr' = wr) (fun _ i _ => L - (intOf i).toNat)
      case atStart => exact ⟨0, -1, by omega, rfl, rfl, by unfold Hid; simp [seen_nil], rfl⟩
      case round =>
        obtain ⟨j, x, hj, rfl, rfl, HX, rfl⟩ := hrel
        by_cases hjl : j < L
        · have hji : (j : Int) < (L : Int) := by omega
          have hlt2 : j < ps.length := by have := HL.out; omega
          obtain ⟨b1, o1, rfl, l1, p1⟩ := hps.here hlt2
          have e1 := (HB.out.cell (p := ⟨b1, o1 + j, none⟩) l1).trans (p1 j hlt2)
          have hw2 : IntKind.i64.wrap ((j : Int) + 1) = (j : Int) + 1 := i64_in (by omega) (by omega)
          have HS := hide_it (seen_succ hlt2 C k)
          obtain ⟨X, hX⟩ : ∃ X, X = atI ps j := ⟨_, rfl⟩
          rw [← hX] at e1 HS
          clear hX p1
          by_cases he : X = (k : Int)
          · have hd : (X == (k : Int)) = true := by simpa using he
            cases T with
            | true =>
              have HX2 : Hid (N = seen C (ps.take (j + 1)) k) := by
                unfold Hid; rw [HS.out, if_pos ⟨he, HT.out.symm⟩]; exact HN.out
              clear he HS
              go_wp2
              go_roundw
              case rel => exact ⟨j + 1, N, by omega, by go_num, rfl, HX2, trivial⟩
              case measure => simp [intOf]; omega
            | false =>
              have HX2 : Hid (x = seen C (ps.take (j + 1)) k) := by
                unfold Hid; rw [HS.out, if_neg (fun y => by rw [← HT.out] at y; cases y.2)]; exact HX.out
              clear he HS
              go_wp2
              go_roundw
              case rel => exact ⟨j + 1, x, by omega, by go_num, rfl, HX2, trivial⟩
              case measure => simp [intOf]; omega
          · have hd : (X == (k : Int)) = false := by simpa using he
            have HX2 : Hid (x = seen C (ps.take (j + 1)) k) := by
              unfold Hid; rw [HS.out, if_neg (fun y => he y.1)]; exact HX.out
            clear he HS
            go_wp2
            go_roundw
            case rel => exact ⟨j + 1, x, by omega, by go_num, rfl, HX2, trivial⟩
            case measure => simp [intOf]; omega
        · have hx : x = seen C ps k := by
            have := HX.out; have hLL := HL.out
            rw [show j = ps.length by omega, List.take_length] at this; exact this
          have HXX := hide_it hx
          clear hx
          have hb9 : Below wr.heap.size wr (wr.alloc (.cells #[.int .i64 x] 3)) := (Below.refl _ _).alloc (Nat.le_refl _) _
          have ho1 := HO.out.below hb9
          have hr9 := row_one wr x
          go_wp2_with (at_builtin; refine wpList_appendI _ rfl _ _ rfl w.heap.size _ (vecOf k C ps) rfl ho1 (some ⟨wr.heap.size, 0, none⟩) 1 [x] rfl hr9 (by simp) (by simp [vecOf_len]; omega) (by simp; omega) ?_; intro v1 w1 ho2 hg1 hat1)
          go_roundw
          case rel =>
            refine ⟨k + 1, by omega, by go_num, by rw [vecOf_succ, ← HXX.out]; exact ho2, ?_⟩
            exact (HB.out.trans (hb9.mono hz)).grown hg1 (by simp; omega) (fun j e => (HO.out.inside j e).1)
          case measure => simp [intOf]; omega
    · obtain rfl : k = n := by omega
      have HO := hide_it ho
      have HB := hide_it hbl
      clear ho hbl
      go_wp2
      go_ret
      exact ⟨⟨_, rfl, HO.out⟩, HB.out⟩


end Go.Proofs.Ythlkegemkkepgaa
