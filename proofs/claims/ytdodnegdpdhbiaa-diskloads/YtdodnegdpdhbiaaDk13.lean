/- New and Load, walked. -/
import Derived.Test.YtdodnegdpdhbiaaDk12
namespace Go.Proofs.Ytdodnegdpdhbiaa
open Go.RowKit

/-- A disk was made. -/
structure MadeD (w : World) (n : Nat) (s : Nat → Pt) (e : Ending) (w' : World) : Prop where
  ex : ∃ p, e = .returned (.tuple #[.pointer (some ⟨p, 0, none⟩), .int .i64 0]) ∧ Dsk w' (fun b => w.heap.size ≤ b ∧ b < w'.heap.size) p false n s
  bel : Below w.heap.size w w'
/-- What Load answers. -/
inductive Lod (w : World) (n : Nat) (S : Nat → Spn) (e : Ending) (w' : World) : Prop
  | ok (h : ∀ i, i < n → okB (S i) = true) (h1 : 1 ≤ n ∧ n ≤ 16) (h2 : MadeD w n (fun i => ofS (S i)) e w')
  | no (h : ¬ ((1 ≤ n ∧ n ≤ 16) ∧ ∀ i, i < n → okB (S i) = true)) (h1 : e = .returned (.tuple #[.pointer none, .int .i64 2])) (h2 : Below w.heap.size w w')

set_option maxRecDepth 100000 in
set_option maxHeartbeats 1600000 in
theorem loadD_any (a : Option Addr) (n c : Nat) (S : Nat → Spn) (w : World) (hS : RowS w a n S) (hok : ∀ i, i < n → SpnOk w (S i)) :
    Calls Try.prog 23 #[.slice a n c] w fun e w' => Lod w n S e w' := by
  have hmb := mayBe_any (n : Int) w
  by_cases hn : 1 ≤ n ∧ n ≤ 16
  · rw [show decide (1 ≤ (n : Int) ∧ (n : Int) ≤ 16) = true by simp; omega] at hmb
    obtain ⟨b, o, rfl, hbl, hcs⟩ := hS.resolve_left (by omega)
    have hmk := mk_any 109 111 _ 5 40 Try.underlying109 infoPart n (by omega) (by omega) w
    have hb0 : Below w.heap.size w (w.alloc (.cells (madeCells #[.pointer none, .int .i64 0, .int .i64 0, .int .u8 0, .int .i64 0] (n * 5)) 111)) := (Below.refl _ _).alloc (Nat.le_refl _) _
    obtain ⟨W0, hW0⟩ : ∃ W0, W0 = w.alloc (.cells (madeCells #[.pointer none, .int .i64 0, .int .i64 0, .int .u8 0, .int .i64 0] (n * 5)) 111) := ⟨_, rfl⟩
    have hnew : W0.heap[w.heap.size]? = some (.cells (madeCells #[.pointer none, .int .i64 0, .int .i64 0, .int .u8 0, .int .i64 0] (n * 5)) 111 (0, 0)) := by rw [hW0]; exact heap_alloc_new w _
    rw [← hW0] at hmk hb0
    have hp0 : PtTo W0 w.heap.size w.heap.size n (fun i => ofS (S i)) (madeCells #[.pointer none, .int .i64 0, .int .i64 0, .int .u8 0, .int .i64 0] (n * 5)) (fun _ => 0) (fun _ => .int .i64 0) 0 :=
      ⟨hnew, Nat.le_refl _, fun i hi => by omega, fun i _ hi => ⟨made_at _ n 5 i 0 rfl hi (by omega), made_at _ n 5 i 1 rfl hi (by omega), made_at _ n 5 i 2 rfl hi (by omega), made_at _ n 5 i 3 rfl hi (by omega), made_at _ n 5 i 4 rfl hi (by omega)⟩,
        fun i hi => by omega, fun i hi => by omega, fun i hi => by omega, fun i k hi => by omega⟩
    obtain ⟨X, hX⟩ : ∃ X, X = w.heap.size := ⟨_, rfl⟩
    rw [← hX] at hmk hp0
    have hXw : w.heap.size ≤ X := by omega
    have hp1 : PtTo W0 w.heap.size X n (fun i => ofS (S i)) (madeCells #[.pointer none, .int .i64 0, .int .i64 0, .int .u8 0, .int .i64 0] (n * 5)) (fun _ => 0) (fun _ => .int .i64 0) 0 := by rw [← hX]; exact hp0
    clear hnew hW0 hX hp0
    replace hp1 := hide_it hp1
    replace hok := hide_it hok
    replace hcs := hide_it hcs
    go_enter Try.func23, Try.ntmps23
    go_wp2_with fail
    refine hmb.mono ?_
    rintro e w1 ⟨rfl, hw⟩
    have hw2 := hw.symm
    subst hw2
    clear hw hmb
    go_wp2_with fail
    go_loopw [18, 5, 6, 7, 8] (fun i _ _ _ _ wr => ∃ j : Nat, j ≤ n ∧ i = .int .i64 (j : Int) ∧ Hid ((∃ C q v, PtTo wr w.heap.size X n (fun i => ofS (S i)) C q v j) ∧ Below w.heap.size w wr ∧ ∀ i, i < j → okB (S i) = true)) (fun i _ _ _ _ _ => n - (intOf i).toNat)
    case atStart => exact ⟨0, by omega, rfl, ⟨_, _, _, hp1.out⟩, hb0, fun i hi => by omega⟩
    case round =>
      obtain ⟨j, hj, rfl, hR⟩ := hrel
      clear hp1 hb0 hmk
      obtain ⟨⟨C, q, v, hP⟩, hb, hgo⟩ := hR.out
      clear hR
      replace hgo := hide_it hgo
      by_cases hlt : j < n
      · obtain ⟨s0, s1⟩ := hcs.out j hlt
        have t0 := (hb.cell (p := ⟨b, o + j * 2, none⟩) hbl).trans s0
        have t1 := (hb.cell (p := ⟨b, o + j * 2 + 1, none⟩) hbl).trans s1
        have hso := (hok.out j hlt).below hb
        obtain ⟨w3, hw3⟩ : ∃ w3, w3 = wr.alloc (.cells #[.int .i64 (S j).B, .slice (S j).a (S j).zs.length (S j).c] 33) := ⟨_, rfl⟩
        have hb3 : Below wr.heap.size wr w3 := by rw [hw3]; exact (Below.refl _ _).alloc (Nat.le_refl _) _
        have hbw3 := hb.trans (hb3.mono hb.size)
        have hP3 := hP.below hb3
        have hso3 := hso.below hb3
        clear s0 s1 hso hP hb hb3
        by_cases hjo : okB (S j) = true
        · have hBr : 0 ≤ (S j).B ∧ (S j).B ≤ 4611686018427387904 := by unfold okB at hjo; simpa using hjo
          have hld := load_ok w3 (S j).B.toNat (by omega) (S j).a (S j).c (S j).zs hso3.row hso3.all hso3.len hso3.nil
          rw [show (((S j).B.toNat : Nat) : Int) = (S j).B by omega, hw3] at hld
          replace hw3 := hide_it hw3
          replace hBr := hide_it hBr
          replace hjo := hide_it hjo
          obtain ⟨BB, hBB⟩ : ∃ x, x = (S j).B := ⟨_, rfl⟩
          obtain ⟨ll, hll⟩ : ∃ x, x = (S j).zs.length := ⟨_, rfl⟩
          rw [← hBB, ← hll] at hld
          rw [← hBB] at t0
          rw [← hll] at t1
          replace hBB := hide_it hBB
          replace hll := hide_it hll
          clear hso3
          go_wp2_with fail
          refine hld.mono ?_
          rintro e w4 ⟨⟨qj, vj, rfl, ha, hq1, hq2⟩, hb4⟩
          rw [hBB.out, hll.out, ← hw3.out] at hb4 hq1 hq2
          rw [hBB.out] at ha
          obtain ⟨C', q', v', hP4⟩ := hP3.put hlt hbw3.size hb4 (qj := qj) (vj := vj) ha ⟨rfl, rfl, rfl, rfl⟩ (fun b hb' => by
            rcases hb' with rfl | hb'
            · exact hq1
            · exact hq2 b hb')
          have hb5 : Below w.heap.size w (w4.setCell ⟨X, j * 5, none⟩ (.pointer (some ⟨qj, 0, none⟩))) := (hbw3.trans (hb4.mono hbw3.size)).setCell hXw _
          have h4 := hP3.below hb4
          have k0 := (cell_of_row _ _ (j * 5) _ _ _ h4.row).trans (h4.zero j (Nat.le_refl _) hlt).1
          have kf := frozen_of_row _ _ (j * 5) _ _ h4.row
          replace hP4 := hide_it hP4
          replace hb5 := hide_it hb5
          clear hld hw3 hP3 hbw3 ha hb4 hq1 hq2 h4
          go_wp2_with fail
          go_roundw
          case rel => exact ⟨j + 1, by omega, by go_num, ⟨_, _, _, hP4.out⟩, hb5.out, fun i hi => by
            by_cases e : i = j
            · rw [e]; exact hjo.out
            · exact hgo.out i (by omega)⟩
          case measure => simp [intOf]; omega
        · have hBr : (S j).B < 0 ∨ 4611686018427387904 < (S j).B := by unfold okB at hjo; simp at hjo; omega
          have hld := load_no w3 (S j).B (.slice (S j).a (S j).zs.length (S j).c) hBr (S j).a (S j).zs.length (S j).c rfl
          rw [hw3] at hld
          replace hw3 := hide_it hw3
          obtain ⟨BB, hBB⟩ : ∃ x, x = (S j).B := ⟨_, rfl⟩
          obtain ⟨ll, hll⟩ : ∃ x, x = (S j).zs.length := ⟨_, rfl⟩
          rw [← hBB, ← hll] at hld
          rw [← hBB] at t0
          rw [← hll] at t1
          replace hBB := hide_it hBB
          replace hll := hide_it hll
          replace hjo := hide_it hjo
          clear hso3 hBr hP3
          go_wp2_with fail
          refine hld.mono ?_
          rintro e w4 ⟨rfl, hb4⟩
          rw [hBB.out, hll.out, ← hw3.out] at hb4
          have hb5 := hbw3.trans (hb4.mono hbw3.size)
          clear hld hw3 hbw3 hb4
          go_wp2_with fail
          go_ret2
          exact .no (fun hx => hjo.out (hx.2 j hlt)) rfl hb5
      · obtain rfl : j = n := by omega
        have hfin := hP.done hn (fun i _ => Nat.le_refl _) (fun i _ => by show (0 : Nat) < 256; omega) hb.size
        have hb6 : Below w.heap.size w (wr.alloc (.cells #[.bool false, .slice (some ⟨X, 0, none⟩) j j] 113)) := hb.alloc hb.size _
        replace hfin := hide_it hfin
        clear hP
        go_wp2_with fail
        go_ret2
        exact .ok hgo.out hn ⟨⟨wr.heap.size, rfl, by simpa using hfin.out⟩, hb6⟩
  · rw [show decide (1 ≤ (n : Int) ∧ (n : Int) ≤ 16) = false by simp; omega] at hmb
    clear hS hok
    go_enter Try.func23, Try.ntmps23
    go_wp2_with fail
    refine hmb.mono ?_
    rintro e w1 ⟨rfl, hw⟩
    have hw2 := hw.symm
    subst hw2
    clear hw hmb
    go_wp2_with fail
    go_ret2
    exact .no (fun hx => hn hx.1) rfl (Below.refl _ _)

/-- What New answers. -/
inductive Newd (w : World) (I : Int) (e : Ending) (w' : World) : Prop
  | ok (n : Nat) (hn : I = (n : Int)) (h1 : 1 ≤ n ∧ n ≤ 16) (h2 : MadeD w n (fun _ => ⟨0, [], 0, 0, 0, 0, 0⟩) e w')
  | no (h : I < 1 ∨ 16 < I) (h1 : e = .returned (.tuple #[.pointer none, .int .i64 2])) (h2 : Below w.heap.size w w')

theorem MadeD.behind {w w1 : World} {n : Nat} {s : Nat → Pt} {e : Ending} {w' : World} (hb : Below w.heap.size w w1) (h : MadeD w1 n s e w') : MadeD w n s e w' := by
  obtain ⟨⟨p, h1, h2⟩, h3⟩ := h
  have := hb.size
  exact ⟨⟨p, h1, h2.mono (fun b hb' => by omega) (fun b hb' => hb'.2)⟩, hb.trans (h3.mono hb.size)⟩

set_option maxRecDepth 100000 in
set_option maxHeartbeats 1600000 in
theorem newD_any (I : Int) (w : World) : Calls Try.prog 19 #[.int .i64 I] w fun e w' => Newd w I e w' := by
  have hmb := mayBe_any I w
  by_cases hI : 1 ≤ I ∧ I ≤ 16
  · rw [show decide (1 ≤ I ∧ I ≤ 16) = true by simp; omega] at hmb
    obtain ⟨n, rfl⟩ : ∃ n : Nat, I = (n : Int) := ⟨I.toNat, by omega⟩
    have hn : 1 ≤ n ∧ n ≤ 16 := by omega
    have hmk := mk_any 53 33 _ 2 32 Try.underlying53 infoSpan n (by omega) (by omega) w
    have hb0 : Below w.heap.size w (w.alloc (.cells (madeCells #[.int .i64 0, .slice none 0 0] (n * 2)) 33)) := (Below.refl _ _).alloc (Nat.le_refl _) _
    obtain ⟨W0, hW0⟩ : ∃ W0, W0 = w.alloc (.cells (madeCells #[.int .i64 0, .slice none 0 0] (n * 2)) 33) := ⟨_, rfl⟩
    have hnew : W0.heap[w.heap.size]? = some (.cells (madeCells #[.int .i64 0, .slice none 0 0] (n * 2)) 33 (0, 0)) := by rw [hW0]; exact heap_alloc_new w _
    have hlt : w.heap.size < W0.heap.size := (Array.getElem?_eq_some_iff.1 hnew).1
    rw [← hW0] at hmk hb0
    have hld := loadD_any (some ⟨w.heap.size, 0, none⟩) n n (fun _ => ⟨0, none, 0, []⟩) W0 (.inr ⟨w.heap.size, 0, rfl, hlt, fun i hi => by
      refine ⟨?_, ?_⟩
      · rw [cell_of_row _ _ _ _ _ _ hnew, Nat.zero_add]; exact made_at _ n 2 i 0 rfl hi (by omega)
      · rw [cell_of_row _ _ _ _ _ _ hnew, Nat.zero_add]; exact made_at _ n 2 i 1 rfl hi (by omega)⟩) (fun i _ => ⟨.inl rfl, (fun z hz => by cases hz), (fun _ => ⟨rfl, rfl⟩), (by simp)⟩)
    clear hnew hW0 hlt hI
    go_enter Try.func19, Try.ntmps19
    go_wp2_with fail
    refine hmb.mono ?_
    rintro e w1 ⟨rfl, hw⟩
    have hw2 := hw.symm
    subst hw2
    clear hw hmb
    go_wp2_with fail
    refine hld.mono ?_
    rintro e w2 hl
    cases hl with
    | ok h1 h2 h3 =>
      obtain ⟨⟨p, rfl, hD⟩, hb2⟩ := h3
      have hD' := hide_it hD
      clear hD h1 hld hmk
      go_wp2_with fail
      go_ret2
      exact .ok n rfl hn (MadeD.behind hb0 ⟨⟨p, rfl, hD'.out⟩, hb2⟩)
    | no h1 h2 h3 =>
      exact absurd ⟨hn, fun i _ => rfl⟩ h1
  · rw [show decide (1 ≤ I ∧ I ≤ 16) = false by simp; omega] at hmb
    go_enter Try.func19, Try.ntmps19
    go_wp2_with fail
    refine hmb.mono ?_
    rintro e w1 ⟨rfl, hw⟩
    have hw2 := hw.symm
    subst hw2
    clear hw hmb
    go_wp2_with fail
    go_ret2
    exact .no (by omega) rfl (Below.refl _ _)

end Go.Proofs.Ytdodnegdpdhbiaa
