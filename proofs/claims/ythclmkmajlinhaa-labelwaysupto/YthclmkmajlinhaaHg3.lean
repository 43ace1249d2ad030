/- The program's Heights, walked. -/
import Derived.Test.YthclmkmajlinhaaHg2
namespace Go.Proofs.Ythclmkmajlinhaa
open Go.RowKit

/-- What the outer loop has filled, and the inner one so far. -/
def hiAt (C : List Nat) (k j i : Nat) : Nat := if i < k then hgt C (at0 C i) else if i = k then hp C k j else 0
theorem hiAt_zero (C : List Nat) (k i : Nat) : hiAt C k 0 i = if i < k then hgt C (at0 C i) else 0 := by
  unfold hiAt
  by_cases h : i < k
  · rw [if_pos h, if_pos h]
  · rw [if_neg h, if_neg h]
    split <;> rfl
theorem hiAt_64 {C : List Nat} (hC : All64 C) (k j i : Nat) : hiAt C k j i ≤ 65 := by
  unfold hiAt
  split
  · have := hgt_64 hC (hC.at i); omega
  · split
    · exact hp_64 hC k j
    · omega

set_option maxRecDepth 100000 in
set_option maxHeartbeats 4000000 in
theorem heights_any (a : Option Addr) (cap : Nat) (zs : List Nat) (w : World) (hd : DistinctOk zs) (hr : Row w a zs) (h64 : All64 zs) (hl : 8 * zs.length ≤ 140737488355328) (hnil : a = none → zs.length = 0 ∧ cap = 0) :
    Calls Try.prog 15 #[.slice a zs.length cap] w fun e w' => (∃ g, e = .returned (.slice (some ⟨g, 0, none⟩) zs.length zs.length) ∧ IRow w' g zs.length (fun i => hgt zs (at0 zs i)) ∧ w.heap.size ≤ g) ∧ Below w.heap.size w w' := by
  have hmk := fun n (h : 8 * n ≤ 140737488355328) => run_make_row' (P := Try.prog) 32 3 (.int .i64 0) 8 Try.underlying32 infoInt rfl .i64 .i64 n (by omega) (by omega)
  go_enter Try.func15, Try.ntmps15
  go_wp2_with fail
  refine (hd a cap w hr hnil).mono ?_
  rintro e w1 ⟨⟨v, C, rfl, hmem, hst, hCl, hown⟩, hb1⟩
  obtain ⟨ca, cc, rfl, hCr, hcc⟩ := row_of_owns hown
  have hmk1 := hmk C.length (by omega)
  have hC64 : All64 C := fun z hz => h64 z ((hmem z).1 hz)
  have hs1 := hb1.size
  have HM := hidec hmem
  have HS := hidec hst
  clear hd hmem hst hown
  go_wp2_with fail
  clear hmk1
  have hr0 := IRow.made w1 C.length
  have hb0 : Below w1.heap.size w1 (w1.alloc (.cells (madeCells #[.int .i64 0] C.length) 3)) := (Below.refl _ _).alloc (Nat.le_refl _) _
  obtain ⟨W0, hW0⟩ : ∃ W0, W0 = w1.alloc (.cells (madeCells #[.int .i64 0] C.length) 3) := ⟨_, rfl⟩
  rw [← hW0] at hr0 hb0 ⊢
  obtain ⟨g, hg⟩ : ∃ g, g = w1.heap.size := ⟨_, rfl⟩
  rw [← hg] at hr0 ⊢
  have hgb : w1.heap.size ≤ g := by omega
  clear hW0 hg
  go_loopw [21] (fun i wr => ∃ k : Nat, k ≤ C.length ∧ i = .int .i64 k ∧ IRow wr g C.length (hiAt C k 0) ∧ Below w1.heap.size w1 wr) (fun i _ => C.length - (intOf i).toNat)
  case atStart => exact ⟨0, by omega, rfl, hr0.congr (fun i _ => by rw [hiAt_zero]; rfl), hb0⟩
  case round =>
    obtain ⟨k, hk, rfl, hrow, hbl⟩ := hrel
    clear hr0 hb0
    by_cases hlt : k < C.length
    · have hi1 : (k : Int) < (C.length : Int) := by omega
      obtain ⟨b, o, rfl, hbb, hcz⟩ := hCr.here hlt
      have c0 := (hbl.cell (p := ⟨b, o + k, none⟩) hbb).trans (hcz k hlt)
      have hX : W64 (at0 C k) := hC64.at k
      obtain ⟨X, hXe⟩ : ∃ X, X = at0 C k := ⟨_, rfl⟩
      rw [← hXe] at c0 hX
      have HX := hidec hXe
      have hki : (k : Int) ≤ (cc : Int) := by omega
      clear hXe
      go_wp2_with fail
      go_loopw [30] (fun i wr => ∃ j : Nat, j ≤ k ∧ i = .int .i64 j ∧ IRow wr g C.length (hiAt C k j) ∧ Below w1.heap.size w1 wr) (fun i _ => k - (intOf i).toNat)
      case atStart => exact ⟨0, by omega, rfl, hrow, hbl⟩
      case round =>
        clear hrow hbl c0
        obtain ⟨j, hj, rfl, hrow, hbl⟩ := hrel
        by_cases hjk : j < k
        · have hji : (j : Int) < (k : Int) := by omega
          have c1 := (hbl.cell (p := ⟨b, o + j, none⟩) hbb).trans (hcz j (by omega))
          have hY : W64 (at0 C j) := hC64.at j
          obtain ⟨Y, hYe⟩ : ∃ Y, Y = at0 C j := ⟨_, rfl⟩
          rw [← hYe] at c1 hY
          have HY := hidec hYe
          have hhA := hiAt_64 hC64 k j k
          have hhB := hiAt_64 hC64 k j j
          have c2 := hrow.cell (i := k) hlt
          have c3 := hrow.cell (i := j) (by omega)
          have f2 := hrow.frozen k
          have hA : hiAt C k j k = hp C k j := by unfold hiAt; rw [if_neg (by omega), if_pos rfl]
          have hB : hiAt C k j j = hgt C (at0 C j) := by unfold hiAt; rw [if_pos hjk]
          rw [hA] at c2 hhA
          rw [hB] at c3 hhB
          have hstep : hp C k (j + 1) = if lq Y X = true then max (hp C k j) (hgt C (at0 C j) + 1) else hp C k j := by rw [HX.out, HY.out]; rfl
          obtain ⟨A, hAe⟩ : ∃ A, A = hp C k j := ⟨_, rfl⟩
          obtain ⟨B, hBe⟩ : ∃ B, B = hgt C (at0 C j) := ⟨_, rfl⟩
          rw [← hAe] at c2 hhA hstep
          rw [← hBe] at c3 hhB hstep
          have HST := hidec hstep
          have hki2 : (k : Int) < (C.length : Int) := by omega
          have hji2 : (j : Int) < (C.length : Int) := by omega
          have hupd : ∀ i, i < C.length → hiAt C k (j + 1) i = if i = k then hp C k (j + 1) else hiAt C k j i := fun i _ => by
            unfold hiAt
            by_cases e : i = k
            · subst e; rw [if_neg (by omega), if_pos rfl, if_pos rfl]
            · rw [if_neg e, if_neg e, if_neg e]
          have HU := hidec hupd
          have hlq := leq_any Y X wr hY hX
          have HAE := hidec hAe
          clear hYe hA hB hAe hBe hstep hupd
          cases hq : lq Y X with
          | false =>
            rw [hq] at hlq
            have he : hp C k (j + 1) = A := by rw [HST.out, hq]; rfl
            have HE := hidec he
            clear he hq
            have HROW := hidec hrow
            go_wp2_with fail
            refine hlq.mono ?_
            rintro e w' ⟨rfl, rfl⟩
            go_wp2_with fail
            go_roundw
            case rel =>
              refine ⟨j + 1, by omega, by go_num, HROW.out.congr (fun i hi => ?_), hbl⟩
              rw [HU.out i hi]
              by_cases e : i = k
              · rw [if_pos e, e, HE.out]; unfold hiAt; rw [if_neg (by omega), if_pos rfl]; exact HAE.out.symm
              · rw [if_neg e]
            case measure => simp [intOf]; omega
          | true =>
            rw [hq] at hlq
            have he : hp C k (j + 1) = max A (B + 1) := by rw [HST.out, hq]; rfl
            have HE := hidec he
            have HROW := hidec hrow
            clear he hq
            by_cases hAB : A < B + 1
            · have HMX : Hid (max A (B + 1) = B + 1) := by show _ = _; omega
              have hABi : (A : Int) < (B : Int) + 1 := by omega
              go_wp2_with fail
              refine hlq.mono ?_
              rintro e w' ⟨rfl, rfl⟩
              go_wp2_with fail
              go_region
              all_goals go_wp2_with fail
              go_roundw
              case rel => exact ⟨j + 1, by omega, by go_num, (HROW.out.drewN 1).set k (B + 1) (fun i hi => by rw [HU.out i hi, HE.out, HMX.out]), (below_drewN hbl 1).setCell hgb _⟩
              case measure => simp [intOf]; omega
            · have HMX : Hid (max A (B + 1) = A) := by show _ = _; omega
              have hABi : ¬ (A : Int) < (B : Int) + 1 := by omega
              go_wp2_with fail
              refine hlq.mono ?_
              rintro e w' ⟨rfl, rfl⟩
              go_wp2_with fail
              go_region
              all_goals go_wp2_with fail
              go_roundw
              case rel => exact ⟨j + 1, by omega, by go_num, (HROW.out.drewN 1).set k (A) (fun i hi => by rw [HU.out i hi, HE.out, HMX.out]), (below_drewN hbl 1).setCell hgb _⟩
              case measure => simp [intOf]; omega
        · have hje : j = k := by omega
          subst hje
          have hrow2 := hrow.congr (h' := hiAt C (j + 1) 0) (fun i hi => by
            rw [hiAt_zero]
            unfold hiAt
            by_cases e : i < j
            · rw [if_pos e, if_pos (by omega)]
            · rw [if_neg e]
              by_cases e2 : i = j
              · subst e2; rw [if_pos rfl, if_pos (by omega)]; exact hp_end HS.out hlt
              · rw [if_neg e2, if_neg (by omega)])
          clear hrow
          go_wp2_with fail
          go_roundw
          case rel => exact ⟨j + 1, by omega, by go_num, hrow2, hbl⟩
          case measure => simp [intOf]; omega
    · have hkC : k = C.length := by omega
      subst hkC
      have hrowC := hrow.congr (h' := fun i => hgt zs (at0 C i)) (fun i hi => by rw [hiAt_zero, if_pos hi]; exact hgt_congr HM.out _)
      have hmk2 := hmk zs.length hl
      have HROW := hidec hrowC
      have hgl := hrowC.lt
      clear hrow hrowC
      go_wp2_with fail
      clear hmk2 hmk
      have hq0 := IRow.made wr zs.length
      have hb0 : Below wr.heap.size wr (wr.alloc (.cells (madeCells #[.int .i64 0] zs.length) 3)) := (Below.refl _ _).alloc (Nat.le_refl _) _
      obtain ⟨W2, hW2⟩ : ∃ W2, W2 = wr.alloc (.cells (madeCells #[.int .i64 0] zs.length) 3) := ⟨_, rfl⟩
      rw [← hW2] at hq0 hb0 ⊢
      obtain ⟨q, hq⟩ : ∃ q, q = wr.heap.size := ⟨_, rfl⟩
      rw [← hq] at hq0 ⊢
      have hqb : wr.heap.size ≤ q := by omega
      have hwq : w.heap.size ≤ q := by have := hbl.size; omega
      clear hW2 hq
      go_loopw [58] (fun i wq => ∃ k : Nat, k ≤ zs.length ∧ i = .int .i64 k ∧ IRow wq q zs.length (fun i => if i < k then hgt zs (at0 zs i) else 0) ∧ Below wr.heap.size wr wq) (fun i _ => zs.length - (intOf i).toNat)
      case atStart => exact ⟨0, by omega, rfl, hq0.congr (fun i _ => rfl), hb0⟩
      case round =>
        obtain ⟨k, hkz, rfl, hrq, hbq⟩ := hrel
        clear hq0 hb0
        have hbw1 := hb1.trans ((hbl.trans (hbq.mono hbl.size)).mono hb1.size)
        by_cases hlz : k < zs.length
        · have hi1 : (k : Int) < (zs.length : Int) := by omega
          obtain ⟨b, o, rfl, hbb, hcz⟩ := (hr.below hbw1).here hlz
          have c0 := hcz k hlz
          obtain ⟨x, hx⟩ : ∃ x, x = at0 zs k := ⟨_, rfl⟩
          obtain ⟨p, hp, hpe⟩ := mem_at0 ((HM.out (at0 zs k)).2 (at0_mem hlz))
          rw [← hx] at c0
          have hse := search_any ca cc C p _ ((hCr.below hbl).below hbq) HS hp (by omega) x (hx.trans hpe.symm)
          have hrC : IRow _ g C.length (fun i => hgt zs (at0 C i)) := HROW.out.keep (hbq.block g hgl)
          have c1 := hrC.cell hp
          have hval : hgt zs (at0 C p) = hgt zs (at0 zs k) := by rw [hpe]
          simp only [hval] at c1
          obtain ⟨V, hV⟩ : ∃ V, V = hgt zs (at0 zs k) := ⟨_, rfl⟩
          rw [← hV] at c1
          have c2 := hrq.cell hlz
          have f2 := hrq.frozen k
          have HV := hidec hV
          have hpi : (p : Int) < (C.length : Int) := by omega
          have HRQ := hidec hrq
          clear hcz hx hpe hval hV hrC hrq
          go_wp2_with fail
          refine hse.mono ?_
          rintro e w' ⟨rfl, hq1⟩
          have hq2 := hq1.symm
          subst hq2
          clear hq1
          go_wp2_with fail
          go_roundw
          case rel =>
            refine ⟨k + 1, by omega, by go_num, HRQ.out.set k V (fun i hi => ?_), hbq.setCell hqb _⟩
            by_cases e : i = k
            · subst e; rw [if_pos (by omega), if_pos rfl, HV.out]
            · rw [if_neg e]
              by_cases e2 : i < k
              · rw [if_pos e2, if_pos (by omega)]
              · rw [if_neg e2, if_neg (by omega)]
          case measure => simp [intOf]; omega
        · have hkz : k = zs.length := by omega
          subst hkz
          go_wp2_with fail
          go_ret
          exact ⟨⟨q, rfl, hrq.congr (fun i hi => by rw [if_pos hi]), hwq⟩, hbw1⟩

end Go.Proofs.Ythclmkmajlinhaa
