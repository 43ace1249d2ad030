/- The document's Decode of a kind with these fields: key false, stamp false, count false, dead false, value false. The document's Decode of a kind with these fields: key true, stamp false, count false, dead false, value true. The document's Decode of a kind with these fields: key true, stamp false, count false, dead false, value false. The document's Decode of a kind with these fields: key false, stamp true, count true, dead false, value false. The document's Decode of a kind with these fields: key true, stamp true, count false, dead true, value true. -/
import Derived.Test.YtlhlpofmeeiffabEi3
import Derived.Test.YtlhlpofmeeiffabEh2
namespace Go.Proofs.Ytlhlpofmeeiffab
open Go.RowKit

set_option maxRecDepth 100000 in
set_option maxHeartbeats 2000000 in
theorem rdecode_o (k : Nat) (t0 : List Nat) (a : Option Addr) (cap : Nat) (w : World) (hK : hk (k : Int) = false) (hS : hs (k : Int) = false) (hC : hc (k : Int) = false) (h5 : ((k : Int) == 5) = false) (hV : hv (k : Int) = false) (hr : RowB w a (k :: t0)) (h8 : All8 (k :: t0)) (hcap : (k :: t0).length ≤ cap) (_hcm : cap ≤ maxLen) (hnil : a = none → (k :: t0).length = 0 ∧ cap = 0) (hl : (k :: t0).length ≤ 140737488355328) :
    Calls Try.prog 20 #[.slice a (k :: t0).length cap] w fun e w' => DecTo w (k :: t0) e w' := by
  have hdoc := doc_dec k t0
  have hD5 : hd (k : Int) = false := h5
  unfold docE dK dS dC dD dV at hdoc
  simp only [hK, hS, hC, hV, hD5, Bool.false_eq_true, if_false] at hdoc
  clear hD5
  have hse : strOf [] = .empty := rfl
  simp only [hse] at hdoc
  clear hse
  have hk8 : k < 256 := h8 k (by simp)
  obtain ⟨b, o, rfl, hck⟩ : ∃ b o, a = some ⟨b, o, none⟩ ∧ w.cell? ⟨b, o, none⟩ = some (.int .u8 (k : Int)) := by
    obtain ⟨b, o, h1, _, h3⟩ := hr.here (i := 0) (by simp)
    exact ⟨b, o, h1, by have := h3 0 (by simp); simpa [at0] using this⟩
  obtain ⟨bs, hbs⟩ : ∃ bs, bs = k :: t0 := ⟨_, rfl⟩
  have hE0 : EndO bs (some t0) := fun t e => ⟨1, by rw [hbs]; simp, by rw [hbs]; cases e; rfl⟩
  have hcu0 : curs bs (some t0) = 1 := by unfold curs; rw [hbs]; simp only [List.length_cons]; omega
  have hlp : 0 < bs.length := by rw [hbs]; simp
  rw [← hbs] at hr h8 hcap hl hdoc ⊢
  have hnil2 : (some (⟨b, o, none⟩ : Addr) : Option Addr) = none → bs.length = 0 ∧ cap = 0 := fun e => by cases e
  clear hbs hnil
  have hS1 := RdS.start w (k : Int)
  have hck1 : (w.alloc (.cells #[.int .i64 0, .int .i64 0, .int .i64 0, .string ⟨#[]⟩, .slice none 0 0, .bool false] 24)).cell? ⟨b, o, none⟩ = some (.int .u8 (k : Int)) := by
    have hbl : b < w.heap.size := by obtain ⟨b2, o2, h1, h2, _⟩ := hr.here (i := 0) hlp; cases h1; exact h2
    exact (((Below.refl _ _).alloc (Nat.le_refl _) _).cell (p := ⟨b, o, none⟩) hbl).trans hck
  clear hck
  obtain ⟨W1, hW1⟩ : ∃ W, W = (w.alloc (.cells #[.int .i64 0, .int .i64 0, .int .i64 0, .string ⟨#[]⟩, .slice none 0 0, .bool false] 24)).alloc (.cells #[.int .i64 (k : Int), .int .i64 0, .int .i64 0, .string ⟨#[]⟩, .slice none 0 0, .bool false] 24) := ⟨_, rfl⟩
  rw [← hW1] at hS1
  obtain ⟨Q, hQ⟩ : ∃ Q, Q = DecTo w bs := ⟨_, rfl⟩
  rw [← hQ]
  have hbad : Hid (∀ w3 x a2 c2, decE bs = none → DcS w w3 (w.heap.size + 1) x a2 c2 → Q (.returned (.tuple #[valE zeroEn none 0, .int .i64 100])) (fillE w3 w.heap.size zeroEn none 0)) := fun w3 x a2 c2 hdn h => by
    rw [hQ]
    exact ⟨⟨none, 0, by rw [hdn]; rfl, by rw [hdn]; exact World.ownsRow_nil _ _ _ _⟩, (h.fill zeroEn none 0).2⟩
  have hgood : Hid (∀ w3 x a2 c2, decE bs = some x → DcS w w3 (w.heap.size + 1) x a2 c2 → Q (.returned (.tuple #[valE x a2 c2, .int .i64 0])) (fillE w3 w.heap.size x a2 c2)) := fun w3 x a2 c2 hdn h => by
    rw [hQ]
    exact ⟨⟨a2, c2, by rw [hdn]; rfl, by rw [hdn]; exact (h.fill x a2 c2).1⟩, (h.fill x a2 c2).2⟩
  clear hQ
  obtain ⟨L, hL⟩ : ∃ L, L = bs.length := ⟨_, rfl⟩
  have hL0 : ((L : Int) == 0) = false := by rw [beq_eq_false_iff_ne]; omega
  rw [← hL]
  have hLl : L ≤ 140737488355328 := by omega
  have hL1 : 0 < L := by omega
  replace hL := hide_it hL
  replace hlp := hide_it hlp
  replace hl := hide_it hl
  replace hcap := hide_it hcap
  go_enter Try.func20, Try.ntmps20
  go_wp2_with fail
  rw [← hW1]
  clear hW1 hck1
  refine (rkeyed_any (k : Int) _).mono ?_
  rintro e wq ⟨rfl, hq⟩
  have hq2 := hq.symm
  subst hq2
  clear hq
  rw [hK]
  obtain ⟨c0, c1, c2, c3, c4, c5⟩ := hS1.box.inE
  have hz := hS1.box.soft
  simp only at c0 c1 c2 c3 c4 c5
  go_wp2_with fail
  clear c0 c1 c2 c3 c4 c5 hz
  refine (rstamped_any (k : Int) _).mono ?_
  rintro e wq ⟨rfl, hq⟩
  have hq2 := hq.symm
  subst hq2
  clear hq
  rw [hS]
  obtain ⟨c0, c1, c2, c3, c4, c5⟩ := hS1.box.inE
  have hz := hS1.box.soft
  simp only at c0 c1 c2 c3 c4 c5
  go_wp2_with fail
  clear c0 c1 c2 c3 c4 c5 hz
  refine (rcounted_any (k : Int) _).mono ?_
  rintro e wq ⟨rfl, hq⟩
  have hq2 := hq.symm
  subst hq2
  clear hq
  rw [hC]
  obtain ⟨c0, c1, c2, c3, c4, c5⟩ := hS1.box.inE
  have hz := hS1.box.soft
  simp only at c0 c1 c2 c3 c4 c5
  go_wp2_with fail
  clear c0 c1 c2 c3 c4 c5 hz
  refine (rvalued_any (k : Int) _).mono ?_
  rintro e wq ⟨rfl, hq⟩
  have hq2 := hq.symm
  subst hq2
  clear hq
  rw [hV]
  obtain ⟨c0, c1, c2, c3, c4, c5⟩ := hS1.box.inE
  have hz := hS1.box.soft
  simp only at c0 c1 c2 c3 c4 c5
  have hDv := hS1.noVal rfl
  clear c0 c1 c2 c3 c4 c5 hz
  obtain ⟨c0, c1, c2, c3, c4, c5⟩ := hDv.box.inE
  have hz := hDv.box.soft
  obtain ⟨d0, d1, d2, d3, d4, d5⟩ := hDv.res.inE
  have hy := hDv.res.soft
  simp only at c0 c1 c2 c3 c4 c5
  clear hS1
  have hcmp := curs_end hE0
  rw [hcu0, ← hL.out] at hcmp
  have hck := rcheck_any ⟨(k : Int), 0, 0, .empty, [], false⟩ none 0 W1
  by_cases hfin : some t0 = some []
  · rw [decide_eq_true hfin] at hcmp
    have hcmp2 : (1 != (L : Int)) = false := by unfold bne; rw [hcmp]; rfl
    obtain ⟨my, hmy⟩ : ∃ m, m = mayE ⟨(k : Int), 0, 0, .empty, [], false⟩ := ⟨_, rfl⟩
    obtain ⟨ch, hch⟩ : ∃ c, c = chkE ⟨(k : Int), 0, 0, .empty, [], false⟩ := ⟨_, rfl⟩
    rw [← hch] at hck
    have hch2 : Hid (ch = if my then 0 else 100) := by unfold Hid; rw [hch, hmy]; rfl
    rw [← hmy] at hdoc
    clear hch hmy
    go_wp2_with fail
    refine hck.mono ?_
    rintro e w4 ⟨rfl, hb4⟩
    have hD4 := hDv.below hb4
    clear hDv hck hb4 c0 c1 c2 c3 c4 c5 hz d0 d1 d2 d3 d4 d5 hy
    obtain ⟨c0, c1, c2, c3, c4, c5⟩ := hD4.box.inE
    obtain ⟨d0, d1, d2, d3, d4, d5⟩ := hD4.res.inE
    have hy := hD4.res.soft
    simp only at c0 c1 c2 c3 c4 c5
    cases my
    · have hc100 : ch = 100 := hch2.out
      subst hc100
      have hdn : decE bs = none := by rw [← hdoc, if_neg (by rintro ⟨_, h⟩; cases h)]
      have hend : Q (.returned (.tuple #[.agg #[.int .i64 0, .int .i64 0, .int .i64 0, .string ⟨#[]⟩, .slice none 0 0, .bool false], .int .i64 100])) ((((((w4.setCell ⟨w.heap.size, 0, none⟩ (.int .i64 0)).setCell ⟨w.heap.size, 1, none⟩ (.int .i64 0)).setCell ⟨w.heap.size, 2, none⟩ (.int .i64 0)).setCell ⟨w.heap.size, 3, none⟩ (.string ⟨#[]⟩)).setCell ⟨w.heap.size, 4, none⟩ (.slice none 0 0)).setCell ⟨w.heap.size, 5, none⟩ (.bool false)) := hbad.out w4 _ _ _ hdn hD4
      clear hbad hgood hch2 hdoc hdn
      go_wp2_with fail
      refine bodyPost_ret (v := .tuple #[.agg #[.int .i64 0, .int .i64 0, .int .i64 0, .string ⟨#[]⟩, .slice none 0 0, .bool false], .int .i64 100]) ?_ rfl hend
      simp [results, Try.results20, go_sem, d0, d1, d2, d3, d4, d5]
    · have hc0 : ch = 0 := hch2.out
      subst hc0
      have hdn : decE bs = some ⟨(k : Int), 0, 0, .empty, [], false⟩ := by rw [← hdoc, if_pos ⟨hfin, rfl⟩]
      have hend := hgood.out w4 _ _ _ hdn hD4
      clear hbad hgood hch2 hdoc hdn
      go_wp2_with fail
      exact bodyPost_ret (v := .tuple #[valE ⟨(k : Int), 0, 0, .empty, [], false⟩ none 0, .int .i64 0]) (by simp [results, Try.results20, go_sem, d0, d1, d2, d3, d4, d5]) rfl hend
  · rw [decide_eq_false hfin] at hcmp
    have hcmp2 : (1 != (L : Int)) = true := by unfold bne; rw [hcmp]; rfl
    have hdn : decE bs = none := by rw [← hdoc, if_neg (by rintro ⟨h, _⟩; exact hfin h)]
    have hend : Q (.returned (.tuple #[.agg #[.int .i64 0, .int .i64 0, .int .i64 0, .string ⟨#[]⟩, .slice none 0 0, .bool false], .int .i64 100])) ((((((W1.setCell ⟨w.heap.size, 0, none⟩ (.int .i64 0)).setCell ⟨w.heap.size, 1, none⟩ (.int .i64 0)).setCell ⟨w.heap.size, 2, none⟩ (.int .i64 0)).setCell ⟨w.heap.size, 3, none⟩ (.string ⟨#[]⟩)).setCell ⟨w.heap.size, 4, none⟩ (.slice none 0 0)).setCell ⟨w.heap.size, 5, none⟩ (.bool false)) := hbad.out _ _ _ _ hdn hDv
    clear hbad hgood hdoc hdn hck hfin
    go_wp2_with fail
    refine bodyPost_ret (v := .tuple #[.agg #[.int .i64 0, .int .i64 0, .int .i64 0, .string ⟨#[]⟩, .slice none 0 0, .bool false], .int .i64 100]) ?_ rfl hend
    simp [results, Try.results20, go_sem, d0, d1, d2, d3, d4, d5]
end Go.Proofs.Ytlhlpofmeeiffab

namespace Go.Proofs.Ytlhlpofmeeiffab
open Go.RowKit

set_option maxRecDepth 100000 in
set_option maxHeartbeats 2000000 in
theorem rdecode_a (k : Nat) (t0 : List Nat) (a : Option Addr) (cap : Nat) (w : World) (hK : hk (k : Int) = true) (hS : hs (k : Int) = false) (hC : hc (k : Int) = false) (h5 : ((k : Int) == 5) = false) (hV : hv (k : Int) = true) (hr : RowB w a (k :: t0)) (h8 : All8 (k :: t0)) (hcap : (k :: t0).length ≤ cap) (hcm : cap ≤ maxLen) (hnil : a = none → (k :: t0).length = 0 ∧ cap = 0) (hl : (k :: t0).length ≤ 140737488355328) :
    Calls Try.prog 20 #[.slice a (k :: t0).length cap] w fun e w' => DecTo w (k :: t0) e w' := by
  have hdoc := doc_dec k t0
  have hD5 : hd (k : Int) = false := h5
  unfold docE dK dS dC dD dV at hdoc
  simp only [hK, hS, hC, hV, hD5, Bool.false_eq_true, if_true, if_false] at hdoc
  clear hD5
  have hk8 : k < 256 := h8 k (by simp)
  obtain ⟨b, o, rfl, hck⟩ : ∃ b o, a = some ⟨b, o, none⟩ ∧ w.cell? ⟨b, o, none⟩ = some (.int .u8 (k : Int)) := by
    obtain ⟨b, o, h1, _, h3⟩ := hr.here (i := 0) (by simp)
    exact ⟨b, o, h1, by have := h3 0 (by simp); simpa [at0] using this⟩
  obtain ⟨bs, hbs⟩ : ∃ bs, bs = k :: t0 := ⟨_, rfl⟩
  have hE0 : EndO bs (some t0) := fun t e => ⟨1, by rw [hbs]; simp, by rw [hbs]; cases e; rfl⟩
  have hcu0 : curs bs (some t0) = 1 := by unfold curs; rw [hbs]; simp only [List.length_cons]; omega
  have hlp : 0 < bs.length := by rw [hbs]; simp
  rw [← hbs] at hr h8 hcap hl hdoc ⊢
  have hnil2 : (some (⟨b, o, none⟩ : Addr) : Option Addr) = none → bs.length = 0 ∧ cap = 0 := fun e => by cases e
  clear hbs hnil
  have hS1 := RdS.start w (k : Int)
  have hck1 : (w.alloc (.cells #[.int .i64 0, .int .i64 0, .int .i64 0, .string ⟨#[]⟩, .slice none 0 0, .bool false] 24)).cell? ⟨b, o, none⟩ = some (.int .u8 (k : Int)) := by
    have hbl : b < w.heap.size := by obtain ⟨b2, o2, h1, h2, _⟩ := hr.here (i := 0) hlp; cases h1; exact h2
    exact (((Below.refl _ _).alloc (Nat.le_refl _) _).cell (p := ⟨b, o, none⟩) hbl).trans hck
  clear hck
  obtain ⟨W1, hW1⟩ : ∃ W, W = (w.alloc (.cells #[.int .i64 0, .int .i64 0, .int .i64 0, .string ⟨#[]⟩, .slice none 0 0, .bool false] 24)).alloc (.cells #[.int .i64 (k : Int), .int .i64 0, .int .i64 0, .string ⟨#[]⟩, .slice none 0 0, .bool false] 24) := ⟨_, rfl⟩
  rw [← hW1] at hS1
  obtain ⟨Q, hQ⟩ : ∃ Q, Q = DecTo w bs := ⟨_, rfl⟩
  rw [← hQ]
  have hbad : Hid (∀ w3 x a2 c2, decE bs = none → DcS w w3 (w.heap.size + 1) x a2 c2 → Q (.returned (.tuple #[valE zeroEn none 0, .int .i64 100])) (fillE w3 w.heap.size zeroEn none 0)) := fun w3 x a2 c2 hdn h => by
    rw [hQ]
    exact ⟨⟨none, 0, by rw [hdn]; rfl, by rw [hdn]; exact World.ownsRow_nil _ _ _ _⟩, (h.fill zeroEn none 0).2⟩
  have hgood : Hid (∀ w3 x a2 c2, decE bs = some x → DcS w w3 (w.heap.size + 1) x a2 c2 → Q (.returned (.tuple #[valE x a2 c2, .int .i64 0])) (fillE w3 w.heap.size x a2 c2)) := fun w3 x a2 c2 hdn h => by
    rw [hQ]
    exact ⟨⟨a2, c2, by rw [hdn]; rfl, by rw [hdn]; exact (h.fill x a2 c2).1⟩, (h.fill x a2 c2).2⟩
  clear hQ
  obtain ⟨L, hL⟩ : ∃ L, L = bs.length := ⟨_, rfl⟩
  have hL0 : ((L : Int) == 0) = false := by rw [beq_eq_false_iff_ne]; omega
  rw [← hL]
  have hLl : L ≤ 140737488355328 := by omega
  have hL1 : 0 < L := by omega
  replace hL := hide_it hL
  replace hlp := hide_it hlp
  replace hl := hide_it hl
  replace hcap := hide_it hcap
  go_enter Try.func20, Try.ntmps20
  go_wp2_with fail
  rw [← hW1]
  clear hW1 hck1
  refine (rkeyed_any (k : Int) _).mono ?_
  rintro e wq ⟨rfl, hq⟩
  have hq2 := hq.symm
  subst hq2
  clear hq
  rw [hK]
  obtain ⟨c0, c1, c2, c3, c4, c5⟩ := hS1.box.inE
  have hz := hS1.box.soft
  simp only at c0 c1 c2 c3 c4 c5
  obtain ⟨⟨p1, o1⟩, e1⟩ : ∃ r, r = rowO 255 (some t0) := ⟨_, rfl⟩
  have hE1 := hE0.row h8 255
  have hx := rrow_any (some ⟨b, o, none⟩) cap 255 bs (some t0) W1 (hr.below hS1.bel) h8 hE0 hcap.out hcm hnil2 hl.out (by omega)
  have hcc : (((255 : Nat) : Nat) : Int) = 255 := rfl
  unfold RowTo at hx
  rw [hcc] at hx
  clear hcc
  rw [← e1] at hx hE1 hdoc
  simp only at hx hE1 hdoc
  rw [← hL.out, hcu0] at hx
  obtain ⟨A1, hA1⟩ : ∃ A, A = curs bs o1 := ⟨_, rfl⟩
  rw [← hA1] at hx
  replace hA1 := hide_it hA1
  replace e1 := hide_it e1
  go_wp2_with fail
  refine hx.mono ?_
  rintro e Y1 ⟨⟨v, rfl, hown⟩, hb⟩
  obtain ⟨av, cv, hv, hrow, _, _, hn⟩ := hown.row
  subst hv
  have kc := conv_row hrow hn
  have hT := hS1.below hb
  clear c0 c1 c2 c3 c4 c5 hz
  obtain ⟨c0, c1, c2, c3, c4, c5⟩ := hT.box.inE
  have hz := hT.box.soft
  simp only at c0 c1 c2 c3 c4 c5
  clear hx hown hb hrow hn hS1
  obtain ⟨s1, hs1⟩ : ∃ s, s = strOf p1 := ⟨_, rfl⟩
  rw [← hs1] at kc hdoc
  clear hs1
  go_wp2_with fail
  clear c0 c1 c2 c3 c4 c5 hz
  clear kc
  have hS2 := hT.setK s1
  obtain ⟨W2, hW2⟩ : ∃ W, W = Y1.setCell ⟨w.heap.size + 1, 3, none⟩ (.string s1) := ⟨_, rfl⟩
  rw [← hW2] at hS2 ⊢
  clear hW2 hT
  refine (rstamped_any (k : Int) _).mono ?_
  rintro e wq ⟨rfl, hq⟩
  have hq2 := hq.symm
  subst hq2
  clear hq
  rw [hS]
  obtain ⟨c0, c1, c2, c3, c4, c5⟩ := hS2.box.inE
  have hz := hS2.box.soft
  simp only at c0 c1 c2 c3 c4 c5
  go_wp2_with fail
  clear c0 c1 c2 c3 c4 c5 hz
  refine (rcounted_any (k : Int) _).mono ?_
  rintro e wq ⟨rfl, hq⟩
  have hq2 := hq.symm
  subst hq2
  clear hq
  rw [hC]
  obtain ⟨c0, c1, c2, c3, c4, c5⟩ := hS2.box.inE
  have hz := hS2.box.soft
  simp only at c0 c1 c2 c3 c4 c5
  go_wp2_with fail
  clear c0 c1 c2 c3 c4 c5 hz
  refine (rvalued_any (k : Int) _).mono ?_
  rintro e wq ⟨rfl, hq⟩
  have hq2 := hq.symm
  subst hq2
  clear hq
  rw [hV]
  obtain ⟨c0, c1, c2, c3, c4, c5⟩ := hS2.box.inE
  have hz := hS2.box.soft
  simp only at c0 c1 c2 c3 c4 c5
  obtain ⟨⟨p2, o2⟩, e2⟩ : ∃ r, r = rowO 4096 (o1) := ⟨_, rfl⟩
  have hE2 := hE1.row h8 4096
  have hx := rrow_any (some ⟨b, o, none⟩) cap 4096 bs (o1) W2 (hr.below hS2.bel) h8 hE1 hcap.out hcm hnil2 hl.out (by omega)
  have hcc : (((4096 : Nat) : Nat) : Int) = 4096 := rfl
  unfold RowTo at hx
  rw [hcc] at hx
  clear hcc
  rw [← e2] at hx hE2 hdoc
  simp only at hx hE2 hdoc
  rw [← hL.out, ← hA1.out] at hx
  obtain ⟨A2, hA2⟩ : ∃ A, A = curs bs o2 := ⟨_, rfl⟩
  rw [← hA2] at hx
  replace hA2 := hide_it hA2
  replace e2 := hide_it e2
  go_wp2_with fail
  refine hx.mono ?_
  rintro e Y2 ⟨⟨v, rfl, hown⟩, hb⟩
  obtain ⟨av, cv, hv, hrow, _, _, hn⟩ := hown.row
  subst hv
  have hT := hS2.below hb
  have hDv := hS2.setV hb p2 av cv hown
  clear c0 c1 c2 c3 c4 c5 hz
  have c4' := hT.box.inE.c4
  have hz' := hT.box.soft 4
  simp only at c4'
  clear hx hown hb hrow hn hS2 hT
  obtain ⟨c0, c1, c2, c3, c4, c5⟩ := hDv.box.inE
  have hz := hDv.box.soft
  obtain ⟨d0, d1, d2, d3, d4, d5⟩ := hDv.res.inE
  have hy := hDv.res.soft
  simp only at c0 c1 c2 c3 c4 c5
  have hcmp := curs_end hE2
  rw [← hA2.out, ← hL.out] at hcmp
  have hck := rcheck_any ⟨(k : Int), 0, 0, s1, p2, false⟩ av cv (Y2.setCell ⟨w.heap.size + 1, 4, none⟩ (.slice av p2.length cv))
  by_cases hfin : o2 = some []
  · rw [decide_eq_true hfin] at hcmp
    have hcmp2 : (A2 != (L : Int)) = false := by unfold bne; rw [hcmp]; rfl
    obtain ⟨my, hmy⟩ : ∃ m, m = mayE ⟨(k : Int), 0, 0, s1, p2, false⟩ := ⟨_, rfl⟩
    obtain ⟨ch, hch⟩ : ∃ c, c = chkE ⟨(k : Int), 0, 0, s1, p2, false⟩ := ⟨_, rfl⟩
    rw [← hch] at hck
    have hch2 : Hid (ch = if my then 0 else 100) := by unfold Hid; rw [hch, hmy]; rfl
    rw [← hmy] at hdoc
    clear hch hmy
    go_wp2_with fail
    refine hck.mono ?_
    rintro e w4 ⟨rfl, hb4⟩
    have hD4 := hDv.below hb4
    clear hDv hck hb4 c0 c1 c2 c3 c4 c5 hz d0 d1 d2 d3 d4 d5 hy
    clear c4' hz'
    obtain ⟨c0, c1, c2, c3, c4, c5⟩ := hD4.box.inE
    obtain ⟨d0, d1, d2, d3, d4, d5⟩ := hD4.res.inE
    have hy := hD4.res.soft
    simp only at c0 c1 c2 c3 c4 c5
    cases my
    · have hc100 : ch = 100 := hch2.out
      subst hc100
      have hdn : decE bs = none := by rw [← hdoc, if_neg (by rintro ⟨_, h⟩; cases h)]
      have hend : Q (.returned (.tuple #[.agg #[.int .i64 0, .int .i64 0, .int .i64 0, .string ⟨#[]⟩, .slice none 0 0, .bool false], .int .i64 100])) ((((((w4.setCell ⟨w.heap.size, 0, none⟩ (.int .i64 0)).setCell ⟨w.heap.size, 1, none⟩ (.int .i64 0)).setCell ⟨w.heap.size, 2, none⟩ (.int .i64 0)).setCell ⟨w.heap.size, 3, none⟩ (.string ⟨#[]⟩)).setCell ⟨w.heap.size, 4, none⟩ (.slice none 0 0)).setCell ⟨w.heap.size, 5, none⟩ (.bool false)) := hbad.out w4 _ _ _ hdn hD4
      clear hbad hgood hch2 hdoc hdn
      go_wp2_with fail
      refine bodyPost_ret (v := .tuple #[.agg #[.int .i64 0, .int .i64 0, .int .i64 0, .string ⟨#[]⟩, .slice none 0 0, .bool false], .int .i64 100]) ?_ rfl hend
      simp [results, Try.results20, go_sem, d0, d1, d2, d3, d4, d5]
    · have hc0 : ch = 0 := hch2.out
      subst hc0
      have hdn : decE bs = some ⟨(k : Int), 0, 0, s1, p2, false⟩ := by rw [← hdoc, if_pos ⟨hfin, rfl⟩]
      have hend := hgood.out w4 _ _ _ hdn hD4
      clear hbad hgood hch2 hdoc hdn
      go_wp2_with fail
      exact bodyPost_ret (v := .tuple #[valE ⟨(k : Int), 0, 0, s1, p2, false⟩ av cv, .int .i64 0]) (by simp [results, Try.results20, go_sem, d0, d1, d2, d3, d4, d5]) rfl hend
  · rw [decide_eq_false hfin] at hcmp
    have hcmp2 : (A2 != (L : Int)) = true := by unfold bne; rw [hcmp]; rfl
    have hdn : decE bs = none := by rw [← hdoc, if_neg (by rintro ⟨h, _⟩; exact hfin h)]
    have hend : Q (.returned (.tuple #[.agg #[.int .i64 0, .int .i64 0, .int .i64 0, .string ⟨#[]⟩, .slice none 0 0, .bool false], .int .i64 100])) (((((((Y2.setCell ⟨w.heap.size + 1, 4, none⟩ (.slice av p2.length cv)).setCell ⟨w.heap.size, 0, none⟩ (.int .i64 0)).setCell ⟨w.heap.size, 1, none⟩ (.int .i64 0)).setCell ⟨w.heap.size, 2, none⟩ (.int .i64 0)).setCell ⟨w.heap.size, 3, none⟩ (.string ⟨#[]⟩)).setCell ⟨w.heap.size, 4, none⟩ (.slice none 0 0)).setCell ⟨w.heap.size, 5, none⟩ (.bool false)) := hbad.out _ _ _ _ hdn hDv
    clear hbad hgood hdoc hdn hck hfin
    go_wp2_with fail
    refine bodyPost_ret (v := .tuple #[.agg #[.int .i64 0, .int .i64 0, .int .i64 0, .string ⟨#[]⟩, .slice none 0 0, .bool false], .int .i64 100]) ?_ rfl hend
    simp [results, Try.results20, go_sem, d0, d1, d2, d3, d4, d5]
end Go.Proofs.Ytlhlpofmeeiffab

namespace Go.Proofs.Ytlhlpofmeeiffab
open Go.RowKit

set_option maxRecDepth 100000 in
set_option maxHeartbeats 2000000 in
theorem rdecode_b (k : Nat) (t0 : List Nat) (a : Option Addr) (cap : Nat) (w : World) (hK : hk (k : Int) = true) (hS : hs (k : Int) = false) (hC : hc (k : Int) = false) (h5 : ((k : Int) == 5) = false) (hV : hv (k : Int) = false) (hr : RowB w a (k :: t0)) (h8 : All8 (k :: t0)) (hcap : (k :: t0).length ≤ cap) (hcm : cap ≤ maxLen) (hnil : a = none → (k :: t0).length = 0 ∧ cap = 0) (hl : (k :: t0).length ≤ 140737488355328) :
    Calls Try.prog 20 #[.slice a (k :: t0).length cap] w fun e w' => DecTo w (k :: t0) e w' := by
  have hdoc := doc_dec k t0
  have hD5 : hd (k : Int) = false := h5
  unfold docE dK dS dC dD dV at hdoc
  simp only [hK, hS, hC, hV, hD5, Bool.false_eq_true, if_true, if_false] at hdoc
  clear hD5
  have hk8 : k < 256 := h8 k (by simp)
  obtain ⟨b, o, rfl, hck⟩ : ∃ b o, a = some ⟨b, o, none⟩ ∧ w.cell? ⟨b, o, none⟩ = some (.int .u8 (k : Int)) := by
    obtain ⟨b, o, h1, _, h3⟩ := hr.here (i := 0) (by simp)
    exact ⟨b, o, h1, by have := h3 0 (by simp); simpa [at0] using this⟩
  obtain ⟨bs, hbs⟩ : ∃ bs, bs = k :: t0 := ⟨_, rfl⟩
  have hE0 : EndO bs (some t0) := fun t e => ⟨1, by rw [hbs]; simp, by rw [hbs]; cases e; rfl⟩
  have hcu0 : curs bs (some t0) = 1 := by unfold curs; rw [hbs]; simp only [List.length_cons]; omega
  have hlp : 0 < bs.length := by rw [hbs]; simp
  rw [← hbs] at hr h8 hcap hl hdoc ⊢
  have hnil2 : (some (⟨b, o, none⟩ : Addr) : Option Addr) = none → bs.length = 0 ∧ cap = 0 := fun e => by cases e
  clear hbs hnil
  have hS1 := RdS.start w (k : Int)
  have hck1 : (w.alloc (.cells #[.int .i64 0, .int .i64 0, .int .i64 0, .string ⟨#[]⟩, .slice none 0 0, .bool false] 24)).cell? ⟨b, o, none⟩ = some (.int .u8 (k : Int)) := by
    have hbl : b < w.heap.size := by obtain ⟨b2, o2, h1, h2, _⟩ := hr.here (i := 0) hlp; cases h1; exact h2
    exact (((Below.refl _ _).alloc (Nat.le_refl _) _).cell (p := ⟨b, o, none⟩) hbl).trans hck
  clear hck
  obtain ⟨W1, hW1⟩ : ∃ W, W = (w.alloc (.cells #[.int .i64 0, .int .i64 0, .int .i64 0, .string ⟨#[]⟩, .slice none 0 0, .bool false] 24)).alloc (.cells #[.int .i64 (k : Int), .int .i64 0, .int .i64 0, .string ⟨#[]⟩, .slice none 0 0, .bool false] 24) := ⟨_, rfl⟩
  rw [← hW1] at hS1
  obtain ⟨Q, hQ⟩ : ∃ Q, Q = DecTo w bs := ⟨_, rfl⟩
  rw [← hQ]
  have hbad : Hid (∀ w3 x a2 c2, decE bs = none → DcS w w3 (w.heap.size + 1) x a2 c2 → Q (.returned (.tuple #[valE zeroEn none 0, .int .i64 100])) (fillE w3 w.heap.size zeroEn none 0)) := fun w3 x a2 c2 hdn h => by
    rw [hQ]
    exact ⟨⟨none, 0, by rw [hdn]; rfl, by rw [hdn]; exact World.ownsRow_nil _ _ _ _⟩, (h.fill zeroEn none 0).2⟩
  have hgood : Hid (∀ w3 x a2 c2, decE bs = some x → DcS w w3 (w.heap.size + 1) x a2 c2 → Q (.returned (.tuple #[valE x a2 c2, .int .i64 0])) (fillE w3 w.heap.size x a2 c2)) := fun w3 x a2 c2 hdn h => by
    rw [hQ]
    exact ⟨⟨a2, c2, by rw [hdn]; rfl, by rw [hdn]; exact (h.fill x a2 c2).1⟩, (h.fill x a2 c2).2⟩
  clear hQ
  obtain ⟨L, hL⟩ : ∃ L, L = bs.length := ⟨_, rfl⟩
  have hL0 : ((L : Int) == 0) = false := by rw [beq_eq_false_iff_ne]; omega
  rw [← hL]
  have hLl : L ≤ 140737488355328 := by omega
  have hL1 : 0 < L := by omega
  replace hL := hide_it hL
  replace hlp := hide_it hlp
  replace hl := hide_it hl
  replace hcap := hide_it hcap
  go_enter Try.func20, Try.ntmps20
  go_wp2_with fail
  rw [← hW1]
  clear hW1 hck1
  refine (rkeyed_any (k : Int) _).mono ?_
  rintro e wq ⟨rfl, hq⟩
  have hq2 := hq.symm
  subst hq2
  clear hq
  rw [hK]
  obtain ⟨c0, c1, c2, c3, c4, c5⟩ := hS1.box.inE
  have hz := hS1.box.soft
  simp only at c0 c1 c2 c3 c4 c5
  obtain ⟨⟨p1, o1⟩, e1⟩ : ∃ r, r = rowO 255 (some t0) := ⟨_, rfl⟩
  have hE1 := hE0.row h8 255
  have hx := rrow_any (some ⟨b, o, none⟩) cap 255 bs (some t0) W1 (hr.below hS1.bel) h8 hE0 hcap.out hcm hnil2 hl.out (by omega)
  have hcc : (((255 : Nat) : Nat) : Int) = 255 := rfl
  unfold RowTo at hx
  rw [hcc] at hx
  clear hcc
  rw [← e1] at hx hE1 hdoc
  simp only at hx hE1 hdoc
  rw [← hL.out, hcu0] at hx
  obtain ⟨A1, hA1⟩ : ∃ A, A = curs bs o1 := ⟨_, rfl⟩
  rw [← hA1] at hx
  replace hA1 := hide_it hA1
  replace e1 := hide_it e1
  go_wp2_with fail
  refine hx.mono ?_
  rintro e Y1 ⟨⟨v, rfl, hown⟩, hb⟩
  obtain ⟨av, cv, hv, hrow, _, _, hn⟩ := hown.row
  subst hv
  have kc := conv_row hrow hn
  have hT := hS1.below hb
  clear c0 c1 c2 c3 c4 c5 hz
  obtain ⟨c0, c1, c2, c3, c4, c5⟩ := hT.box.inE
  have hz := hT.box.soft
  simp only at c0 c1 c2 c3 c4 c5
  clear hx hown hb hrow hn hS1
  obtain ⟨s1, hs1⟩ : ∃ s, s = strOf p1 := ⟨_, rfl⟩
  rw [← hs1] at kc hdoc
  clear hs1
  go_wp2_with fail
  clear c0 c1 c2 c3 c4 c5 hz
  clear kc
  have hS2 := hT.setK s1
  obtain ⟨W2, hW2⟩ : ∃ W, W = Y1.setCell ⟨w.heap.size + 1, 3, none⟩ (.string s1) := ⟨_, rfl⟩
  rw [← hW2] at hS2 ⊢
  clear hW2 hT
  refine (rstamped_any (k : Int) _).mono ?_
  rintro e wq ⟨rfl, hq⟩
  have hq2 := hq.symm
  subst hq2
  clear hq
  rw [hS]
  obtain ⟨c0, c1, c2, c3, c4, c5⟩ := hS2.box.inE
  have hz := hS2.box.soft
  simp only at c0 c1 c2 c3 c4 c5
  go_wp2_with fail
  clear c0 c1 c2 c3 c4 c5 hz
  refine (rcounted_any (k : Int) _).mono ?_
  rintro e wq ⟨rfl, hq⟩
  have hq2 := hq.symm
  subst hq2
  clear hq
  rw [hC]
  obtain ⟨c0, c1, c2, c3, c4, c5⟩ := hS2.box.inE
  have hz := hS2.box.soft
  simp only at c0 c1 c2 c3 c4 c5
  go_wp2_with fail
  clear c0 c1 c2 c3 c4 c5 hz
  refine (rvalued_any (k : Int) _).mono ?_
  rintro e wq ⟨rfl, hq⟩
  have hq2 := hq.symm
  subst hq2
  clear hq
  rw [hV]
  obtain ⟨c0, c1, c2, c3, c4, c5⟩ := hS2.box.inE
  have hz := hS2.box.soft
  simp only at c0 c1 c2 c3 c4 c5
  have hDv := hS2.noVal rfl
  clear c0 c1 c2 c3 c4 c5 hz
  obtain ⟨c0, c1, c2, c3, c4, c5⟩ := hDv.box.inE
  have hz := hDv.box.soft
  obtain ⟨d0, d1, d2, d3, d4, d5⟩ := hDv.res.inE
  have hy := hDv.res.soft
  simp only at c0 c1 c2 c3 c4 c5
  clear hS2
  have hcmp := curs_end hE1
  rw [← hA1.out, ← hL.out] at hcmp
  have hck := rcheck_any ⟨(k : Int), 0, 0, s1, [], false⟩ none 0 W2
  by_cases hfin : o1 = some []
  · rw [decide_eq_true hfin] at hcmp
    have hcmp2 : (A1 != (L : Int)) = false := by unfold bne; rw [hcmp]; rfl
    obtain ⟨my, hmy⟩ : ∃ m, m = mayE ⟨(k : Int), 0, 0, s1, [], false⟩ := ⟨_, rfl⟩
    obtain ⟨ch, hch⟩ : ∃ c, c = chkE ⟨(k : Int), 0, 0, s1, [], false⟩ := ⟨_, rfl⟩
    rw [← hch] at hck
    have hch2 : Hid (ch = if my then 0 else 100) := by unfold Hid; rw [hch, hmy]; rfl
    rw [← hmy] at hdoc
    clear hch hmy
    go_wp2_with fail
    refine hck.mono ?_
    rintro e w4 ⟨rfl, hb4⟩
    have hD4 := hDv.below hb4
    clear hDv hck hb4 c0 c1 c2 c3 c4 c5 hz d0 d1 d2 d3 d4 d5 hy
    obtain ⟨c0, c1, c2, c3, c4, c5⟩ := hD4.box.inE
    obtain ⟨d0, d1, d2, d3, d4, d5⟩ := hD4.res.inE
    have hy := hD4.res.soft
    simp only at c0 c1 c2 c3 c4 c5
    cases my
    · have hc100 : ch = 100 := hch2.out
      subst hc100
      have hdn : decE bs = none := by rw [← hdoc, if_neg (by rintro ⟨_, h⟩; cases h)]
      have hend : Q (.returned (.tuple #[.agg #[.int .i64 0, .int .i64 0, .int .i64 0, .string ⟨#[]⟩, .slice none 0 0, .bool false], .int .i64 100])) ((((((w4.setCell ⟨w.heap.size, 0, none⟩ (.int .i64 0)).setCell ⟨w.heap.size, 1, none⟩ (.int .i64 0)).setCell ⟨w.heap.size, 2, none⟩ (.int .i64 0)).setCell ⟨w.heap.size, 3, none⟩ (.string ⟨#[]⟩)).setCell ⟨w.heap.size, 4, none⟩ (.slice none 0 0)).setCell ⟨w.heap.size, 5, none⟩ (.bool false)) := hbad.out w4 _ _ _ hdn hD4
      clear hbad hgood hch2 hdoc hdn
      go_wp2_with fail
      refine bodyPost_ret (v := .tuple #[.agg #[.int .i64 0, .int .i64 0, .int .i64 0, .string ⟨#[]⟩, .slice none 0 0, .bool false], .int .i64 100]) ?_ rfl hend
      simp [results, Try.results20, go_sem, d0, d1, d2, d3, d4, d5]
    · have hc0 : ch = 0 := hch2.out
      subst hc0
      have hdn : decE bs = some ⟨(k : Int), 0, 0, s1, [], false⟩ := by rw [← hdoc, if_pos ⟨hfin, rfl⟩]
      have hend := hgood.out w4 _ _ _ hdn hD4
      clear hbad hgood hch2 hdoc hdn
      go_wp2_with fail
      exact bodyPost_ret (v := .tuple #[valE ⟨(k : Int), 0, 0, s1, [], false⟩ none 0, .int .i64 0]) (by simp [results, Try.results20, go_sem, d0, d1, d2, d3, d4, d5]) rfl hend
  · rw [decide_eq_false hfin] at hcmp
    have hcmp2 : (A1 != (L : Int)) = true := by unfold bne; rw [hcmp]; rfl
    have hdn : decE bs = none := by rw [← hdoc, if_neg (by rintro ⟨h, _⟩; exact hfin h)]
    have hend : Q (.returned (.tuple #[.agg #[.int .i64 0, .int .i64 0, .int .i64 0, .string ⟨#[]⟩, .slice none 0 0, .bool false], .int .i64 100])) ((((((W2.setCell ⟨w.heap.size, 0, none⟩ (.int .i64 0)).setCell ⟨w.heap.size, 1, none⟩ (.int .i64 0)).setCell ⟨w.heap.size, 2, none⟩ (.int .i64 0)).setCell ⟨w.heap.size, 3, none⟩ (.string ⟨#[]⟩)).setCell ⟨w.heap.size, 4, none⟩ (.slice none 0 0)).setCell ⟨w.heap.size, 5, none⟩ (.bool false)) := hbad.out _ _ _ _ hdn hDv
    clear hbad hgood hdoc hdn hck hfin
    go_wp2_with fail
    refine bodyPost_ret (v := .tuple #[.agg #[.int .i64 0, .int .i64 0, .int .i64 0, .string ⟨#[]⟩, .slice none 0 0, .bool false], .int .i64 100]) ?_ rfl hend
    simp [results, Try.results20, go_sem, d0, d1, d2, d3, d4, d5]
end Go.Proofs.Ytlhlpofmeeiffab

namespace Go.Proofs.Ytlhlpofmeeiffab
open Go.RowKit

set_option maxRecDepth 100000 in
set_option maxHeartbeats 2000000 in
theorem rdecode_c (k : Nat) (t0 : List Nat) (a : Option Addr) (cap : Nat) (w : World) (hK : hk (k : Int) = false) (hS : hs (k : Int) = true) (hC : hc (k : Int) = true) (h5 : ((k : Int) == 5) = false) (hV : hv (k : Int) = false) (hr : RowB w a (k :: t0)) (h8 : All8 (k :: t0)) (hcap : (k :: t0).length ≤ cap) (_hcm : cap ≤ maxLen) (hnil : a = none → (k :: t0).length = 0 ∧ cap = 0) (hl : (k :: t0).length ≤ 140737488355328) :
    Calls Try.prog 20 #[.slice a (k :: t0).length cap] w fun e w' => DecTo w (k :: t0) e w' := by
  have hdoc := doc_dec k t0
  have hD5 : hd (k : Int) = false := h5
  unfold docE dK dS dC dD dV at hdoc
  simp only [hK, hS, hC, hV, hD5, Bool.false_eq_true, if_true, if_false] at hdoc
  clear hD5
  have hse : strOf [] = .empty := rfl
  simp only [hse] at hdoc
  clear hse
  have hk8 : k < 256 := h8 k (by simp)
  obtain ⟨b, o, rfl, hck⟩ : ∃ b o, a = some ⟨b, o, none⟩ ∧ w.cell? ⟨b, o, none⟩ = some (.int .u8 (k : Int)) := by
    obtain ⟨b, o, h1, _, h3⟩ := hr.here (i := 0) (by simp)
    exact ⟨b, o, h1, by have := h3 0 (by simp); simpa [at0] using this⟩
  obtain ⟨bs, hbs⟩ : ∃ bs, bs = k :: t0 := ⟨_, rfl⟩
  have hE0 : EndO bs (some t0) := fun t e => ⟨1, by rw [hbs]; simp, by rw [hbs]; cases e; rfl⟩
  have hcu0 : curs bs (some t0) = 1 := by unfold curs; rw [hbs]; simp only [List.length_cons]; omega
  have hlp : 0 < bs.length := by rw [hbs]; simp
  rw [← hbs] at hr h8 hcap hl hdoc ⊢
  have hnil2 : (some (⟨b, o, none⟩ : Addr) : Option Addr) = none → bs.length = 0 ∧ cap = 0 := fun e => by cases e
  clear hbs hnil
  have hS1 := RdS.start w (k : Int)
  have hck1 : (w.alloc (.cells #[.int .i64 0, .int .i64 0, .int .i64 0, .string ⟨#[]⟩, .slice none 0 0, .bool false] 24)).cell? ⟨b, o, none⟩ = some (.int .u8 (k : Int)) := by
    have hbl : b < w.heap.size := by obtain ⟨b2, o2, h1, h2, _⟩ := hr.here (i := 0) hlp; cases h1; exact h2
    exact (((Below.refl _ _).alloc (Nat.le_refl _) _).cell (p := ⟨b, o, none⟩) hbl).trans hck
  clear hck
  obtain ⟨W1, hW1⟩ : ∃ W, W = (w.alloc (.cells #[.int .i64 0, .int .i64 0, .int .i64 0, .string ⟨#[]⟩, .slice none 0 0, .bool false] 24)).alloc (.cells #[.int .i64 (k : Int), .int .i64 0, .int .i64 0, .string ⟨#[]⟩, .slice none 0 0, .bool false] 24) := ⟨_, rfl⟩
  rw [← hW1] at hS1
  obtain ⟨Q, hQ⟩ : ∃ Q, Q = DecTo w bs := ⟨_, rfl⟩
  rw [← hQ]
  have hbad : Hid (∀ w3 x a2 c2, decE bs = none → DcS w w3 (w.heap.size + 1) x a2 c2 → Q (.returned (.tuple #[valE zeroEn none 0, .int .i64 100])) (fillE w3 w.heap.size zeroEn none 0)) := fun w3 x a2 c2 hdn h => by
    rw [hQ]
    exact ⟨⟨none, 0, by rw [hdn]; rfl, by rw [hdn]; exact World.ownsRow_nil _ _ _ _⟩, (h.fill zeroEn none 0).2⟩
  have hgood : Hid (∀ w3 x a2 c2, decE bs = some x → DcS w w3 (w.heap.size + 1) x a2 c2 → Q (.returned (.tuple #[valE x a2 c2, .int .i64 0])) (fillE w3 w.heap.size x a2 c2)) := fun w3 x a2 c2 hdn h => by
    rw [hQ]
    exact ⟨⟨a2, c2, by rw [hdn]; rfl, by rw [hdn]; exact (h.fill x a2 c2).1⟩, (h.fill x a2 c2).2⟩
  clear hQ
  obtain ⟨L, hL⟩ : ∃ L, L = bs.length := ⟨_, rfl⟩
  have hL0 : ((L : Int) == 0) = false := by rw [beq_eq_false_iff_ne]; omega
  rw [← hL]
  have hLl : L ≤ 140737488355328 := by omega
  have hL1 : 0 < L := by omega
  replace hL := hide_it hL
  replace hlp := hide_it hlp
  replace hl := hide_it hl
  replace hcap := hide_it hcap
  go_enter Try.func20, Try.ntmps20
  go_wp2_with fail
  rw [← hW1]
  clear hW1 hck1
  refine (rkeyed_any (k : Int) _).mono ?_
  rintro e wq ⟨rfl, hq⟩
  have hq2 := hq.symm
  subst hq2
  clear hq
  rw [hK]
  obtain ⟨c0, c1, c2, c3, c4, c5⟩ := hS1.box.inE
  have hz := hS1.box.soft
  simp only at c0 c1 c2 c3 c4 c5
  go_wp2_with fail
  clear c0 c1 c2 c3 c4 c5 hz
  refine (rstamped_any (k : Int) _).mono ?_
  rintro e wq ⟨rfl, hq⟩
  have hq2 := hq.symm
  subst hq2
  clear hq
  rw [hS]
  obtain ⟨c0, c1, c2, c3, c4, c5⟩ := hS1.box.inE
  have hz := hS1.box.soft
  simp only at c0 c1 c2 c3 c4 c5
  obtain ⟨⟨n1, o1⟩, e1⟩ : ∃ r, r = numO 4611686018427387904 (some t0) := ⟨_, rfl⟩
  have hE1 := hE0.num h8 4611686018427387904
  have hx := rnumber_any (some ⟨b, o, none⟩) cap 4611686018427387904 bs (some t0) W1 (hr.below hS1.bel) h8 hE0 hl.out (by omega)
  have hcc : (((4611686018427387904 : Nat) : Nat) : Int) = 4611686018427387904 := rfl
  rw [hcc] at hx
  clear hcc
  rw [← e1] at hx hE1 hdoc
  simp only at hx hE1 hdoc
  rw [← hL.out, hcu0] at hx
  obtain ⟨A1, hA1⟩ : ∃ A, A = curs bs o1 := ⟨_, rfl⟩
  rw [← hA1] at hx
  replace hA1 := hide_it hA1
  replace e1 := hide_it e1
  go_wp2_with fail
  refine hx.mono ?_
  rintro e wq ⟨rfl, hq⟩
  have hq2 := hq.symm
  subst hq2
  clear hq hx
  go_wp2_with fail
  clear c0 c1 c2 c3 c4 c5 hz
  have hS2 := hS1.setS n1
  obtain ⟨W2, hW2⟩ : ∃ W, W = W1.setCell ⟨w.heap.size + 1, 1, none⟩ (.int .i64 n1) := ⟨_, rfl⟩
  rw [← hW2] at hS2 ⊢
  clear hW2 hS1
  refine (rcounted_any (k : Int) _).mono ?_
  rintro e wq ⟨rfl, hq⟩
  have hq2 := hq.symm
  subst hq2
  clear hq
  rw [hC]
  obtain ⟨c0, c1, c2, c3, c4, c5⟩ := hS2.box.inE
  have hz := hS2.box.soft
  simp only at c0 c1 c2 c3 c4 c5
  obtain ⟨⟨n2, o2⟩, e2⟩ : ∃ r, r = numO 2147483647 (o1) := ⟨_, rfl⟩
  have hE2 := hE1.num h8 2147483647
  have hx := rnumber_any (some ⟨b, o, none⟩) cap 2147483647 bs (o1) W2 (hr.below hS2.bel) h8 hE1 hl.out (by omega)
  have hcc : (((2147483647 : Nat) : Nat) : Int) = 2147483647 := rfl
  rw [hcc] at hx
  clear hcc
  rw [← e2] at hx hE2 hdoc
  simp only at hx hE2 hdoc
  rw [← hL.out, ← hA1.out] at hx
  obtain ⟨A2, hA2⟩ : ∃ A, A = curs bs o2 := ⟨_, rfl⟩
  rw [← hA2] at hx
  replace hA2 := hide_it hA2
  replace e2 := hide_it e2
  go_wp2_with fail
  refine hx.mono ?_
  rintro e wq ⟨rfl, hq⟩
  have hq2 := hq.symm
  subst hq2
  clear hq hx
  go_wp2_with fail
  clear c0 c1 c2 c3 c4 c5 hz
  have hS3 := hS2.setC n2
  obtain ⟨W3, hW3⟩ : ∃ W, W = W2.setCell ⟨w.heap.size + 1, 2, none⟩ (.int .i64 n2) := ⟨_, rfl⟩
  rw [← hW3] at hS3 ⊢
  clear hW3 hS2
  refine (rvalued_any (k : Int) _).mono ?_
  rintro e wq ⟨rfl, hq⟩
  have hq2 := hq.symm
  subst hq2
  clear hq
  rw [hV]
  obtain ⟨c0, c1, c2, c3, c4, c5⟩ := hS3.box.inE
  have hz := hS3.box.soft
  simp only at c0 c1 c2 c3 c4 c5
  have hDv := hS3.noVal rfl
  clear c0 c1 c2 c3 c4 c5 hz
  obtain ⟨c0, c1, c2, c3, c4, c5⟩ := hDv.box.inE
  have hz := hDv.box.soft
  obtain ⟨d0, d1, d2, d3, d4, d5⟩ := hDv.res.inE
  have hy := hDv.res.soft
  simp only at c0 c1 c2 c3 c4 c5
  clear hS3
  have hcmp := curs_end hE2
  rw [← hA2.out, ← hL.out] at hcmp
  have hck := rcheck_any ⟨(k : Int), n1, n2, .empty, [], false⟩ none 0 W3
  by_cases hfin : o2 = some []
  · rw [decide_eq_true hfin] at hcmp
    have hcmp2 : (A2 != (L : Int)) = false := by unfold bne; rw [hcmp]; rfl
    obtain ⟨my, hmy⟩ : ∃ m, m = mayE ⟨(k : Int), n1, n2, .empty, [], false⟩ := ⟨_, rfl⟩
    obtain ⟨ch, hch⟩ : ∃ c, c = chkE ⟨(k : Int), n1, n2, .empty, [], false⟩ := ⟨_, rfl⟩
    rw [← hch] at hck
    have hch2 : Hid (ch = if my then 0 else 100) := by unfold Hid; rw [hch, hmy]; rfl
    rw [← hmy] at hdoc
    clear hch hmy
    go_wp2_with fail
    refine hck.mono ?_
    rintro e w4 ⟨rfl, hb4⟩
    have hD4 := hDv.below hb4
    clear hDv hck hb4 c0 c1 c2 c3 c4 c5 hz d0 d1 d2 d3 d4 d5 hy
    obtain ⟨c0, c1, c2, c3, c4, c5⟩ := hD4.box.inE
    obtain ⟨d0, d1, d2, d3, d4, d5⟩ := hD4.res.inE
    have hy := hD4.res.soft
    simp only at c0 c1 c2 c3 c4 c5
    cases my
    · have hc100 : ch = 100 := hch2.out
      subst hc100
      have hdn : decE bs = none := by rw [← hdoc, if_neg (by rintro ⟨_, h⟩; cases h)]
      have hend : Q (.returned (.tuple #[.agg #[.int .i64 0, .int .i64 0, .int .i64 0, .string ⟨#[]⟩, .slice none 0 0, .bool false], .int .i64 100])) ((((((w4.setCell ⟨w.heap.size, 0, none⟩ (.int .i64 0)).setCell ⟨w.heap.size, 1, none⟩ (.int .i64 0)).setCell ⟨w.heap.size, 2, none⟩ (.int .i64 0)).setCell ⟨w.heap.size, 3, none⟩ (.string ⟨#[]⟩)).setCell ⟨w.heap.size, 4, none⟩ (.slice none 0 0)).setCell ⟨w.heap.size, 5, none⟩ (.bool false)) := hbad.out w4 _ _ _ hdn hD4
      clear hbad hgood hch2 hdoc hdn
      go_wp2_with fail
      refine bodyPost_ret (v := .tuple #[.agg #[.int .i64 0, .int .i64 0, .int .i64 0, .string ⟨#[]⟩, .slice none 0 0, .bool false], .int .i64 100]) ?_ rfl hend
      simp [results, Try.results20, go_sem, d0, d1, d2, d3, d4, d5]
    · have hc0 : ch = 0 := hch2.out
      subst hc0
      have hdn : decE bs = some ⟨(k : Int), n1, n2, .empty, [], false⟩ := by rw [← hdoc, if_pos ⟨hfin, rfl⟩]
      have hend := hgood.out w4 _ _ _ hdn hD4
      clear hbad hgood hch2 hdoc hdn
      go_wp2_with fail
      exact bodyPost_ret (v := .tuple #[valE ⟨(k : Int), n1, n2, .empty, [], false⟩ none 0, .int .i64 0]) (by simp [results, Try.results20, go_sem, d0, d1, d2, d3, d4, d5]) rfl hend
  · rw [decide_eq_false hfin] at hcmp
    have hcmp2 : (A2 != (L : Int)) = true := by unfold bne; rw [hcmp]; rfl
    have hdn : decE bs = none := by rw [← hdoc, if_neg (by rintro ⟨h, _⟩; exact hfin h)]
    have hend : Q (.returned (.tuple #[.agg #[.int .i64 0, .int .i64 0, .int .i64 0, .string ⟨#[]⟩, .slice none 0 0, .bool false], .int .i64 100])) ((((((W3.setCell ⟨w.heap.size, 0, none⟩ (.int .i64 0)).setCell ⟨w.heap.size, 1, none⟩ (.int .i64 0)).setCell ⟨w.heap.size, 2, none⟩ (.int .i64 0)).setCell ⟨w.heap.size, 3, none⟩ (.string ⟨#[]⟩)).setCell ⟨w.heap.size, 4, none⟩ (.slice none 0 0)).setCell ⟨w.heap.size, 5, none⟩ (.bool false)) := hbad.out _ _ _ _ hdn hDv
    clear hbad hgood hdoc hdn hck hfin
    go_wp2_with fail
    refine bodyPost_ret (v := .tuple #[.agg #[.int .i64 0, .int .i64 0, .int .i64 0, .string ⟨#[]⟩, .slice none 0 0, .bool false], .int .i64 100]) ?_ rfl hend
    simp [results, Try.results20, go_sem, d0, d1, d2, d3, d4, d5]
end Go.Proofs.Ytlhlpofmeeiffab

namespace Go.Proofs.Ytlhlpofmeeiffab
open Go.RowKit

set_option maxRecDepth 100000 in
set_option maxHeartbeats 2000000 in
theorem rdecode_e (k : Nat) (t0 : List Nat) (a : Option Addr) (cap : Nat) (w : World) (hK : hk (k : Int) = true) (hS : hs (k : Int) = true) (hC : hc (k : Int) = false) (h5 : ((k : Int) == 5) = true) (hV : hv (k : Int) = true) (hr : RowB w a (k :: t0)) (h8 : All8 (k :: t0)) (hcap : (k :: t0).length ≤ cap) (hcm : cap ≤ maxLen) (hnil : a = none → (k :: t0).length = 0 ∧ cap = 0) (hl : (k :: t0).length ≤ 140737488355328) :
    Calls Try.prog 20 #[.slice a (k :: t0).length cap] w fun e w' => DecTo w (k :: t0) e w' := by
  have hdoc := doc_dec k t0
  have hD5 : hd (k : Int) = true := h5
  unfold docE dK dS dC dD dV at hdoc
  simp only [hK, hS, hC, hV, hD5, Bool.false_eq_true, if_true, if_false] at hdoc
  clear hD5
  have hk8 : k < 256 := h8 k (by simp)
  obtain ⟨b, o, rfl, hck⟩ : ∃ b o, a = some ⟨b, o, none⟩ ∧ w.cell? ⟨b, o, none⟩ = some (.int .u8 (k : Int)) := by
    obtain ⟨b, o, h1, _, h3⟩ := hr.here (i := 0) (by simp)
    exact ⟨b, o, h1, by have := h3 0 (by simp); simpa [at0] using this⟩
  obtain ⟨bs, hbs⟩ : ∃ bs, bs = k :: t0 := ⟨_, rfl⟩
  have hE0 : EndO bs (some t0) := fun t e => ⟨1, by rw [hbs]; simp, by rw [hbs]; cases e; rfl⟩
  have hcu0 : curs bs (some t0) = 1 := by unfold curs; rw [hbs]; simp only [List.length_cons]; omega
  have hlp : 0 < bs.length := by rw [hbs]; simp
  rw [← hbs] at hr h8 hcap hl hdoc ⊢
  have hnil2 : (some (⟨b, o, none⟩ : Addr) : Option Addr) = none → bs.length = 0 ∧ cap = 0 := fun e => by cases e
  clear hbs hnil
  have hS1 := RdS.start w (k : Int)
  have hck1 : (w.alloc (.cells #[.int .i64 0, .int .i64 0, .int .i64 0, .string ⟨#[]⟩, .slice none 0 0, .bool false] 24)).cell? ⟨b, o, none⟩ = some (.int .u8 (k : Int)) := by
    have hbl : b < w.heap.size := by obtain ⟨b2, o2, h1, h2, _⟩ := hr.here (i := 0) hlp; cases h1; exact h2
    exact (((Below.refl _ _).alloc (Nat.le_refl _) _).cell (p := ⟨b, o, none⟩) hbl).trans hck
  clear hck
  obtain ⟨W1, hW1⟩ : ∃ W, W = (w.alloc (.cells #[.int .i64 0, .int .i64 0, .int .i64 0, .string ⟨#[]⟩, .slice none 0 0, .bool false] 24)).alloc (.cells #[.int .i64 (k : Int), .int .i64 0, .int .i64 0, .string ⟨#[]⟩, .slice none 0 0, .bool false] 24) := ⟨_, rfl⟩
  rw [← hW1] at hS1
  obtain ⟨Q, hQ⟩ : ∃ Q, Q = DecTo w bs := ⟨_, rfl⟩
  rw [← hQ]
  have hbad : Hid (∀ w3 x a2 c2, decE bs = none → DcS w w3 (w.heap.size + 1) x a2 c2 → Q (.returned (.tuple #[valE zeroEn none 0, .int .i64 100])) (fillE w3 w.heap.size zeroEn none 0)) := fun w3 x a2 c2 hdn h => by
    rw [hQ]
    exact ⟨⟨none, 0, by rw [hdn]; rfl, by rw [hdn]; exact World.ownsRow_nil _ _ _ _⟩, (h.fill zeroEn none 0).2⟩
  have hgood : Hid (∀ w3 x a2 c2, decE bs = some x → DcS w w3 (w.heap.size + 1) x a2 c2 → Q (.returned (.tuple #[valE x a2 c2, .int .i64 0])) (fillE w3 w.heap.size x a2 c2)) := fun w3 x a2 c2 hdn h => by
    rw [hQ]
    exact ⟨⟨a2, c2, by rw [hdn]; rfl, by rw [hdn]; exact (h.fill x a2 c2).1⟩, (h.fill x a2 c2).2⟩
  clear hQ
  obtain ⟨L, hL⟩ : ∃ L, L = bs.length := ⟨_, rfl⟩
  have hL0 : ((L : Int) == 0) = false := by rw [beq_eq_false_iff_ne]; omega
  rw [← hL]
  have hLl : L ≤ 140737488355328 := by omega
  have hL1 : 0 < L := by omega
  replace hL := hide_it hL
  replace hlp := hide_it hlp
  replace hl := hide_it hl
  replace hcap := hide_it hcap
  go_enter Try.func20, Try.ntmps20
  go_wp2_with fail
  rw [← hW1]
  clear hW1 hck1
  refine (rkeyed_any (k : Int) _).mono ?_
  rintro e wq ⟨rfl, hq⟩
  have hq2 := hq.symm
  subst hq2
  clear hq
  rw [hK]
  obtain ⟨c0, c1, c2, c3, c4, c5⟩ := hS1.box.inE
  have hz := hS1.box.soft
  simp only at c0 c1 c2 c3 c4 c5
  obtain ⟨⟨p1, o1⟩, e1⟩ : ∃ r, r = rowO 255 (some t0) := ⟨_, rfl⟩
  have hE1 := hE0.row h8 255
  have hx := rrow_any (some ⟨b, o, none⟩) cap 255 bs (some t0) W1 (hr.below hS1.bel) h8 hE0 hcap.out hcm hnil2 hl.out (by omega)
  have hcc : (((255 : Nat) : Nat) : Int) = 255 := rfl
  unfold RowTo at hx
  rw [hcc] at hx
  clear hcc
  rw [← e1] at hx hE1 hdoc
  simp only at hx hE1 hdoc
  rw [← hL.out, hcu0] at hx
  obtain ⟨A1, hA1⟩ : ∃ A, A = curs bs o1 := ⟨_, rfl⟩
  rw [← hA1] at hx
  replace hA1 := hide_it hA1
  replace e1 := hide_it e1
  go_wp2_with fail
  refine hx.mono ?_
  rintro e Y1 ⟨⟨v, rfl, hown⟩, hb⟩
  obtain ⟨av, cv, hv, hrow, _, _, hn⟩ := hown.row
  subst hv
  have kc := conv_row hrow hn
  have hT := hS1.below hb
  clear c0 c1 c2 c3 c4 c5 hz
  obtain ⟨c0, c1, c2, c3, c4, c5⟩ := hT.box.inE
  have hz := hT.box.soft
  simp only at c0 c1 c2 c3 c4 c5
  clear hx hown hb hrow hn hS1
  obtain ⟨s1, hs1⟩ : ∃ s, s = strOf p1 := ⟨_, rfl⟩
  rw [← hs1] at kc hdoc
  clear hs1
  go_wp2_with fail
  clear c0 c1 c2 c3 c4 c5 hz
  clear kc
  have hS2 := hT.setK s1
  obtain ⟨W2, hW2⟩ : ∃ W, W = Y1.setCell ⟨w.heap.size + 1, 3, none⟩ (.string s1) := ⟨_, rfl⟩
  rw [← hW2] at hS2 ⊢
  clear hW2 hT
  refine (rstamped_any (k : Int) _).mono ?_
  rintro e wq ⟨rfl, hq⟩
  have hq2 := hq.symm
  subst hq2
  clear hq
  rw [hS]
  obtain ⟨c0, c1, c2, c3, c4, c5⟩ := hS2.box.inE
  have hz := hS2.box.soft
  simp only at c0 c1 c2 c3 c4 c5
  obtain ⟨⟨n2, o2⟩, e2⟩ : ∃ r, r = numO 4611686018427387904 (o1) := ⟨_, rfl⟩
  have hE2 := hE1.num h8 4611686018427387904
  have hx := rnumber_any (some ⟨b, o, none⟩) cap 4611686018427387904 bs (o1) W2 (hr.below hS2.bel) h8 hE1 hl.out (by omega)
  have hcc : (((4611686018427387904 : Nat) : Nat) : Int) = 4611686018427387904 := rfl
  rw [hcc] at hx
  clear hcc
  rw [← e2] at hx hE2 hdoc
  simp only at hx hE2 hdoc
  rw [← hL.out, ← hA1.out] at hx
  obtain ⟨A2, hA2⟩ : ∃ A, A = curs bs o2 := ⟨_, rfl⟩
  rw [← hA2] at hx
  replace hA2 := hide_it hA2
  replace e2 := hide_it e2
  go_wp2_with fail
  refine hx.mono ?_
  rintro e wq ⟨rfl, hq⟩
  have hq2 := hq.symm
  subst hq2
  clear hq hx
  go_wp2_with fail
  clear c0 c1 c2 c3 c4 c5 hz
  have hS3 := hS2.setS n2
  obtain ⟨W3, hW3⟩ : ∃ W, W = W2.setCell ⟨w.heap.size + 1, 1, none⟩ (.int .i64 n2) := ⟨_, rfl⟩
  rw [← hW3] at hS3 ⊢
  clear hW3 hS2
  refine (rcounted_any (k : Int) _).mono ?_
  rintro e wq ⟨rfl, hq⟩
  have hq2 := hq.symm
  subst hq2
  clear hq
  rw [hC]
  obtain ⟨c0, c1, c2, c3, c4, c5⟩ := hS3.box.inE
  have hz := hS3.box.soft
  simp only at c0 c1 c2 c3 c4 c5
  cases o2 with
  | none =>
    have hcn : A2 = -1 := hA2.out
    subst hcn
    simp only [] at hdoc
    go_wp2_with fail
    clear c0 c1 c2 c3 c4 c5 hz
    refine (rvalued_any (k : Int) _).mono ?_
    rintro e wq ⟨rfl, hq⟩
    have hq2 := hq.symm
    subst hq2
    clear hq
    rw [hV]
    obtain ⟨c0, c1, c2, c3, c4, c5⟩ := hS3.box.inE
    have hz := hS3.box.soft
    simp only at c0 c1 c2 c3 c4 c5
    obtain ⟨⟨p3, o3⟩, e3⟩ : ∃ r, r = rowO 4096 (none) := ⟨_, rfl⟩
    have hE3 := hE2.row h8 4096
    have hx := rrow_any (some ⟨b, o, none⟩) cap 4096 bs (none) W3 (hr.below hS3.bel) h8 hE2 hcap.out hcm hnil2 hl.out (by omega)
    have hcc : (((4096 : Nat) : Nat) : Int) = 4096 := rfl
    unfold RowTo at hx
    rw [hcc] at hx
    clear hcc
    rw [← e3] at hx hE3 hdoc
    simp only at hx hE3 hdoc
    rw [← hL.out, ← hA2.out] at hx
    obtain ⟨A3, hA3⟩ : ∃ A, A = curs bs o3 := ⟨_, rfl⟩
    rw [← hA3] at hx
    replace hA3 := hide_it hA3
    replace e3 := hide_it e3
    go_wp2_with fail
    refine hx.mono ?_
    rintro e Y3 ⟨⟨v, rfl, hown⟩, hb⟩
    obtain ⟨av, cv, hv, hrow, _, _, hn⟩ := hown.row
    subst hv
    have hT := hS3.below hb
    have hDv := hS3.setV hb p3 av cv hown
    clear c0 c1 c2 c3 c4 c5 hz
    have c4' := hT.box.inE.c4
    have hz' := hT.box.soft 4
    simp only at c4'
    clear hx hown hb hrow hn hS3 hT
    obtain ⟨c0, c1, c2, c3, c4, c5⟩ := hDv.box.inE
    have hz := hDv.box.soft
    obtain ⟨d0, d1, d2, d3, d4, d5⟩ := hDv.res.inE
    have hy := hDv.res.soft
    simp only at c0 c1 c2 c3 c4 c5
    have hcmp := curs_end hE3
    rw [← hA3.out, ← hL.out] at hcmp
    have hck := rcheck_any ⟨(k : Int), n2, 0, s1, p3, false⟩ av cv (Y3.setCell ⟨w.heap.size + 1, 4, none⟩ (.slice av p3.length cv))
    by_cases hfin : o3 = some []
    · rw [decide_eq_true hfin] at hcmp
      have hcmp2 : (A3 != (L : Int)) = false := by unfold bne; rw [hcmp]; rfl
      obtain ⟨my, hmy⟩ : ∃ m, m = mayE ⟨(k : Int), n2, 0, s1, p3, false⟩ := ⟨_, rfl⟩
      obtain ⟨ch, hch⟩ : ∃ c, c = chkE ⟨(k : Int), n2, 0, s1, p3, false⟩ := ⟨_, rfl⟩
      rw [← hch] at hck
      have hch2 : Hid (ch = if my then 0 else 100) := by unfold Hid; rw [hch, hmy]; rfl
      rw [← hmy] at hdoc
      clear hch hmy
      go_wp2_with fail
      refine hck.mono ?_
      rintro e w4 ⟨rfl, hb4⟩
      have hD4 := hDv.below hb4
      clear hDv hck hb4 c0 c1 c2 c3 c4 c5 hz d0 d1 d2 d3 d4 d5 hy
      clear c4' hz'
      obtain ⟨c0, c1, c2, c3, c4, c5⟩ := hD4.box.inE
      obtain ⟨d0, d1, d2, d3, d4, d5⟩ := hD4.res.inE
      have hy := hD4.res.soft
      simp only at c0 c1 c2 c3 c4 c5
      cases my
      · have hc100 : ch = 100 := hch2.out
        subst hc100
        have hdn : decE bs = none := by rw [← hdoc, if_neg (by rintro ⟨_, h⟩; cases h)]
        have hend : Q (.returned (.tuple #[.agg #[.int .i64 0, .int .i64 0, .int .i64 0, .string ⟨#[]⟩, .slice none 0 0, .bool false], .int .i64 100])) ((((((w4.setCell ⟨w.heap.size, 0, none⟩ (.int .i64 0)).setCell ⟨w.heap.size, 1, none⟩ (.int .i64 0)).setCell ⟨w.heap.size, 2, none⟩ (.int .i64 0)).setCell ⟨w.heap.size, 3, none⟩ (.string ⟨#[]⟩)).setCell ⟨w.heap.size, 4, none⟩ (.slice none 0 0)).setCell ⟨w.heap.size, 5, none⟩ (.bool false)) := hbad.out w4 _ _ _ hdn hD4
        clear hbad hgood hch2 hdoc hdn
        go_wp2_with fail
        refine bodyPost_ret (v := .tuple #[.agg #[.int .i64 0, .int .i64 0, .int .i64 0, .string ⟨#[]⟩, .slice none 0 0, .bool false], .int .i64 100]) ?_ rfl hend
        simp [results, Try.results20, go_sem, d0, d1, d2, d3, d4, d5]
      · have hc0 : ch = 0 := hch2.out
        subst hc0
        have hdn : decE bs = some ⟨(k : Int), n2, 0, s1, p3, false⟩ := by rw [← hdoc, if_pos ⟨hfin, rfl⟩]
        have hend := hgood.out w4 _ _ _ hdn hD4
        clear hbad hgood hch2 hdoc hdn
        go_wp2_with fail
        exact bodyPost_ret (v := .tuple #[valE ⟨(k : Int), n2, 0, s1, p3, false⟩ av cv, .int .i64 0]) (by simp [results, Try.results20, go_sem, d0, d1, d2, d3, d4, d5]) rfl hend
    · rw [decide_eq_false hfin] at hcmp
      have hcmp2 : (A3 != (L : Int)) = true := by unfold bne; rw [hcmp]; rfl
      have hdn : decE bs = none := by rw [← hdoc, if_neg (by rintro ⟨h, _⟩; exact hfin h)]
      have hend : Q (.returned (.tuple #[.agg #[.int .i64 0, .int .i64 0, .int .i64 0, .string ⟨#[]⟩, .slice none 0 0, .bool false], .int .i64 100])) (((((((Y3.setCell ⟨w.heap.size + 1, 4, none⟩ (.slice av p3.length cv)).setCell ⟨w.heap.size, 0, none⟩ (.int .i64 0)).setCell ⟨w.heap.size, 1, none⟩ (.int .i64 0)).setCell ⟨w.heap.size, 2, none⟩ (.int .i64 0)).setCell ⟨w.heap.size, 3, none⟩ (.string ⟨#[]⟩)).setCell ⟨w.heap.size, 4, none⟩ (.slice none 0 0)).setCell ⟨w.heap.size, 5, none⟩ (.bool false)) := hbad.out _ _ _ _ hdn hDv
      clear hbad hgood hdoc hdn hck hfin
      go_wp2_with fail
      refine bodyPost_ret (v := .tuple #[.agg #[.int .i64 0, .int .i64 0, .int .i64 0, .string ⟨#[]⟩, .slice none 0 0, .bool false], .int .i64 100]) ?_ rfl hend
      simp [results, Try.results20, go_sem, d0, d1, d2, d3, d4, d5]
  | some t2 =>
    obtain ⟨j, hj, hju⟩ := hE2 t2 rfl
    have hcn : A2 = (j : Int) := by rw [hA2.out, hju, curs_at bs hj]
    subst hcn
    rw [← hL.out] at hj
    cases t2 with
    | nil =>
      have hjL : j = L := by have := congrArg List.length hju; rw [List.length_nil, List.length_drop, ← hL.out] at this; omega
      have hdn : decE bs = none := by rw [← hdoc]
      have hDv := hS3.noVal rfl
      obtain ⟨d0, d1, d2, d3, d4, d5⟩ := hDv.res.inE
      have hy := hDv.res.soft
      have hend : Q (.returned (.tuple #[.agg #[.int .i64 0, .int .i64 0, .int .i64 0, .string ⟨#[]⟩, .slice none 0 0, .bool false], .int .i64 100])) ((((((W3.setCell ⟨w.heap.size, 0, none⟩ (.int .i64 0)).setCell ⟨w.heap.size, 1, none⟩ (.int .i64 0)).setCell ⟨w.heap.size, 2, none⟩ (.int .i64 0)).setCell ⟨w.heap.size, 3, none⟩ (.string ⟨#[]⟩)).setCell ⟨w.heap.size, 4, none⟩ (.slice none 0 0)).setCell ⟨w.heap.size, 5, none⟩ (.bool false)) := hbad.out _ _ _ _ hdn hDv
      have hge : decide ((L : Int) ≤ (j : Int)) = true := by simp; omega
      have hge2 : L ≤ j := by omega
      clear hbad hgood hdoc hdn hju hDv hS3 hjL
      go_wp2_with fail
      refine bodyPost_ret (v := .tuple #[.agg #[.int .i64 0, .int .i64 0, .int .i64 0, .string ⟨#[]⟩, .slice none 0 0, .bool false], .int .i64 100]) ?_ rfl hend
      simp [results, Try.results20, go_sem, d0, d1, d2, d3, d4, d5]
    | cons x u =>
      have hjL : j < L := by have := congrArg List.length hju; rw [List.length_cons, List.length_drop, ← hL.out] at this; omega
      have hdr := drop_at (l := bs) (k := j) (by rw [← hL.out]; exact hjL)
      rw [← hju] at hdr
      obtain ⟨hxa, hua⟩ := List.cons.inj hdr
      have hx8 : x < 256 := by rw [hxa]; exact h8.at _
      have hcell : W3.cell? ⟨b, o + j, none⟩ = some (.int .u8 (x : Int)) := by
        obtain ⟨b2, o2, h1, _, h3⟩ := (hr.below hS3.bel).here (i := 0) hlp.out
        cases h1
        rw [hxa]
        exact h3 j (by rw [← hL.out]; exact hjL)
      have hE4 : EndO bs (some u) := fun t e => ⟨j + 1, by rw [← hL.out]; omega, by cases e; exact hua⟩
      have hcu4 : curs bs (some u) = (j : Int) + 1 := by rw [hua, curs_at bs (by rw [← hL.out]; omega)]; omega
      have hge : decide ((L : Int) ≤ (j : Int)) = false := by simp; omega
      have hge2 : ¬ L ≤ j := by omega
      have hwj : IntKind.i64.wrap ((j : Int) + 1) = (j : Int) + 1 := by rw [IntKind.wrap_i64]; omega
      clear hju hdr hxa hua
      simp only [] at hdoc
      by_cases hx1 : x ≤ 1
      · rw [if_pos hx1] at hdoc
        obtain ⟨d, hd⟩ : ∃ d, (x == 1) = d := ⟨_, rfl⟩
        have hxd : ((x : Int) == 1) = d := by rw [← hd, Bool.eq_iff_iff, beq_iff_eq, beq_iff_eq]; omega
        rw [hd] at hdoc
        simp only [] at hdoc
        have hd1 : decide ((1 : Int) < (x : Int)) = false := by simp; omega
        have hd2 : ¬ 1 < x := by omega
        clear hd hx1
        go_wp2_with fail
        clear c0 c1 c2 c3 c4 c5 hz
        have hS4 := hS3.setD d
        obtain ⟨W4, hW4⟩ : ∃ W, W = W3.setCell ⟨w.heap.size + 1, 5, none⟩ (.bool d) := ⟨_, rfl⟩
        rw [← hW4] at hS4 ⊢
        clear hW4 hcell hS3
        refine (rvalued_any (k : Int) _).mono ?_
        rintro e wq ⟨rfl, hq⟩
        have hq2 := hq.symm
        subst hq2
        clear hq
        rw [hV]
        obtain ⟨c0, c1, c2, c3, c4, c5⟩ := hS4.box.inE
        have hz := hS4.box.soft
        simp only at c0 c1 c2 c3 c4 c5
        obtain ⟨⟨p5, o5⟩, e5⟩ : ∃ r, r = rowO 4096 (some u) := ⟨_, rfl⟩
        have hE5 := hE4.row h8 4096
        have hx := rrow_any (some ⟨b, o, none⟩) cap 4096 bs (some u) W4 (hr.below hS4.bel) h8 hE4 hcap.out hcm hnil2 hl.out (by omega)
        have hcc : (((4096 : Nat) : Nat) : Int) = 4096 := rfl
        unfold RowTo at hx
        rw [hcc] at hx
        clear hcc
        rw [← e5] at hx hE5 hdoc
        simp only at hx hE5 hdoc
        rw [← hL.out, hcu4] at hx
        obtain ⟨A5, hA5⟩ : ∃ A, A = curs bs o5 := ⟨_, rfl⟩
        rw [← hA5] at hx
        replace hA5 := hide_it hA5
        replace e5 := hide_it e5
        go_wp2_with fail
        refine hx.mono ?_
        rintro e Y5 ⟨⟨v, rfl, hown⟩, hb⟩
        obtain ⟨av, cv, hv, hrow, _, _, hn⟩ := hown.row
        subst hv
        have hT := hS4.below hb
        have hDv := hS4.setV hb p5 av cv hown
        clear c0 c1 c2 c3 c4 c5 hz
        have c4' := hT.box.inE.c4
        have hz' := hT.box.soft 4
        simp only at c4'
        clear hx hown hb hrow hn hS4 hT
        obtain ⟨c0, c1, c2, c3, c4, c5⟩ := hDv.box.inE
        have hz := hDv.box.soft
        obtain ⟨d0, d1, d2, d3, d4, d5⟩ := hDv.res.inE
        have hy := hDv.res.soft
        simp only at c0 c1 c2 c3 c4 c5
        have hcmp := curs_end hE5
        rw [← hA5.out, ← hL.out] at hcmp
        have hck := rcheck_any ⟨(k : Int), n2, 0, s1, p5, d⟩ av cv (Y5.setCell ⟨w.heap.size + 1, 4, none⟩ (.slice av p5.length cv))
        by_cases hfin : o5 = some []
        · rw [decide_eq_true hfin] at hcmp
          have hcmp2 : (A5 != (L : Int)) = false := by unfold bne; rw [hcmp]; rfl
          obtain ⟨my, hmy⟩ : ∃ m, m = mayE ⟨(k : Int), n2, 0, s1, p5, d⟩ := ⟨_, rfl⟩
          obtain ⟨ch, hch⟩ : ∃ c, c = chkE ⟨(k : Int), n2, 0, s1, p5, d⟩ := ⟨_, rfl⟩
          rw [← hch] at hck
          have hch2 : Hid (ch = if my then 0 else 100) := by unfold Hid; rw [hch, hmy]; rfl
          rw [← hmy] at hdoc
          clear hch hmy
          go_wp2_with fail
          refine hck.mono ?_
          rintro e w4 ⟨rfl, hb4⟩
          have hD4 := hDv.below hb4
          clear hDv hck hb4 c0 c1 c2 c3 c4 c5 hz d0 d1 d2 d3 d4 d5 hy
          clear c4' hz'
          obtain ⟨c0, c1, c2, c3, c4, c5⟩ := hD4.box.inE
          obtain ⟨d0, d1, d2, d3, d4, d5⟩ := hD4.res.inE
          have hy := hD4.res.soft
          simp only at c0 c1 c2 c3 c4 c5
          cases my
          · have hc100 : ch = 100 := hch2.out
            subst hc100
            have hdn : decE bs = none := by rw [← hdoc, if_neg (by rintro ⟨_, h⟩; cases h)]
            have hend : Q (.returned (.tuple #[.agg #[.int .i64 0, .int .i64 0, .int .i64 0, .string ⟨#[]⟩, .slice none 0 0, .bool false], .int .i64 100])) ((((((w4.setCell ⟨w.heap.size, 0, none⟩ (.int .i64 0)).setCell ⟨w.heap.size, 1, none⟩ (.int .i64 0)).setCell ⟨w.heap.size, 2, none⟩ (.int .i64 0)).setCell ⟨w.heap.size, 3, none⟩ (.string ⟨#[]⟩)).setCell ⟨w.heap.size, 4, none⟩ (.slice none 0 0)).setCell ⟨w.heap.size, 5, none⟩ (.bool false)) := hbad.out w4 _ _ _ hdn hD4
            clear hbad hgood hch2 hdoc hdn
            go_wp2_with fail
            refine bodyPost_ret (v := .tuple #[.agg #[.int .i64 0, .int .i64 0, .int .i64 0, .string ⟨#[]⟩, .slice none 0 0, .bool false], .int .i64 100]) ?_ rfl hend
            simp [results, Try.results20, go_sem, d0, d1, d2, d3, d4, d5]
          · have hc0 : ch = 0 := hch2.out
            subst hc0
            have hdn : decE bs = some ⟨(k : Int), n2, 0, s1, p5, d⟩ := by rw [← hdoc, if_pos ⟨hfin, rfl⟩]
            have hend := hgood.out w4 _ _ _ hdn hD4
            clear hbad hgood hch2 hdoc hdn
            go_wp2_with fail
            exact bodyPost_ret (v := .tuple #[valE ⟨(k : Int), n2, 0, s1, p5, d⟩ av cv, .int .i64 0]) (by simp [results, Try.results20, go_sem, d0, d1, d2, d3, d4, d5]) rfl hend
        · rw [decide_eq_false hfin] at hcmp
          have hcmp2 : (A5 != (L : Int)) = true := by unfold bne; rw [hcmp]; rfl
          have hdn : decE bs = none := by rw [← hdoc, if_neg (by rintro ⟨h, _⟩; exact hfin h)]
          have hend : Q (.returned (.tuple #[.agg #[.int .i64 0, .int .i64 0, .int .i64 0, .string ⟨#[]⟩, .slice none 0 0, .bool false], .int .i64 100])) (((((((Y5.setCell ⟨w.heap.size + 1, 4, none⟩ (.slice av p5.length cv)).setCell ⟨w.heap.size, 0, none⟩ (.int .i64 0)).setCell ⟨w.heap.size, 1, none⟩ (.int .i64 0)).setCell ⟨w.heap.size, 2, none⟩ (.int .i64 0)).setCell ⟨w.heap.size, 3, none⟩ (.string ⟨#[]⟩)).setCell ⟨w.heap.size, 4, none⟩ (.slice none 0 0)).setCell ⟨w.heap.size, 5, none⟩ (.bool false)) := hbad.out _ _ _ _ hdn hDv
          clear hbad hgood hdoc hdn hck hfin
          go_wp2_with fail
          refine bodyPost_ret (v := .tuple #[.agg #[.int .i64 0, .int .i64 0, .int .i64 0, .string ⟨#[]⟩, .slice none 0 0, .bool false], .int .i64 100]) ?_ rfl hend
          simp [results, Try.results20, go_sem, d0, d1, d2, d3, d4, d5]
      · rw [if_neg hx1] at hdoc
        have hdn : decE bs = none := by rw [← hdoc]
        have hDv := hS3.noVal rfl
        obtain ⟨d0, d1, d2, d3, d4, d5⟩ := hDv.res.inE
        have hy := hDv.res.soft
        have hend : Q (.returned (.tuple #[.agg #[.int .i64 0, .int .i64 0, .int .i64 0, .string ⟨#[]⟩, .slice none 0 0, .bool false], .int .i64 100])) ((((((W3.setCell ⟨w.heap.size, 0, none⟩ (.int .i64 0)).setCell ⟨w.heap.size, 1, none⟩ (.int .i64 0)).setCell ⟨w.heap.size, 2, none⟩ (.int .i64 0)).setCell ⟨w.heap.size, 3, none⟩ (.string ⟨#[]⟩)).setCell ⟨w.heap.size, 4, none⟩ (.slice none 0 0)).setCell ⟨w.heap.size, 5, none⟩ (.bool false)) := hbad.out _ _ _ _ hdn hDv
        have hd1 : decide ((1 : Int) < (x : Int)) = true := by simp; omega
        have hd2 : 1 < x := by omega
        clear hbad hgood hdoc hdn hDv hS3 hx1
        go_wp2_with fail
        refine bodyPost_ret (v := .tuple #[.agg #[.int .i64 0, .int .i64 0, .int .i64 0, .string ⟨#[]⟩, .slice none 0 0, .bool false], .int .i64 100]) ?_ rfl hend
        simp [results, Try.results20, go_sem, d0, d1, d2, d3, d4, d5]
end Go.Proofs.Ytlhlpofmeeiffab
