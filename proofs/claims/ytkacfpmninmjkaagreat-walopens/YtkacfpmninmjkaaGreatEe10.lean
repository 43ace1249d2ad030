/- Decode. -/
import Derived.Test.YtkacfpmninmjkaaGreatEe9
import Derived.Test.YtkacfpmninmjkaaGreatSb1
namespace Go.Proofs.YtkacfpmninmjkaaGreat
open Go.RowKit

set_option maxRecDepth 100000 in
set_option maxHeartbeats 400000 in
theorem clone_wide (a : Option Addr) (cap : Nat) (zs : List Nat) (w : World) (hr : RowB w a zs) (hl : zs.length ≤ 211106232532800) (hnil : a = none → zs.length = 0 ∧ cap = 0) :
    Calls Tryz.prog 79 #[.slice a zs.length cap] w fun e w' => (∃ v, e = .returned v ∧ OwB w' w.heap.size v zs) ∧ Below w.heap.size w w' := by
  have hb0 : Below w.heap.size w (w.alloc (.cells #[] 5)) := (Below.refl _ _).alloc (Nat.le_refl _) _
  have hr0 := hr.below hb0
  have hn1 := fun (w : World) (a : Option Addr) (n c : Nat) => Lib.run_eql_slice_nil (P := Tryz.prog) w 39 5 a n c 0 0 Tryz.underlying39
  cases a with
  | none =>
    obtain ⟨h1, h2⟩ := hnil rfl
    have hzs : zs = [] := List.eq_nil_of_length_eq_zero h1
    subst hzs
    subst h2
    go_enter Tryz.func79, Tryz.ntmps79
    go_wp2
    go_ret
    exact ⟨⟨_, rfl, OwnS.nil _ _ _ _⟩, Below.refl _ _⟩
  | some ad =>
    clear hr
    go_enter Tryz.func79, Tryz.ntmps79
    go_wp2_with (at_builtin; refine wpList_appendB _ rfl _ _ rfl w.heap.size _ [] rfl (OwnS.of_row (own_empty w)) (some ad) cap zs rfl hr0 hnil (by simp; omega) hb0.size ?_; intro vc w0 hown0 hg0 hat0)
    go_ret
    exact ⟨⟨_, rfl, by rw [List.nil_append] at hown0; exact hown0⟩, hb0.grown hg0 hb0.size (fun j e => by cases e; exact Nat.le_refl _)⟩

set_option maxRecDepth 100000 in
set_option maxHeartbeats 400000 in
theorem open_wide (a : Option Addr) (cap : Nat) (zs : List Nat) (w : World) (hr : RowB w a zs) (hl : zs.length ≤ 211106232532800) (hnil : a = none → zs.length = 0 ∧ cap = 0) :
    Calls Tryz.prog 82 #[.slice a zs.length cap] w fun e w' => ∃ p, e = .returned (.pointer (some ⟨p, 0, none⟩)) ∧ w.heap.size ≤ p ∧ Rdr w' p zs 0 ∧ Below w.heap.size w w' := by
  have hcl := clone_wide a cap zs w hr hl hnil
  clear hr
  go_enter Tryz.func82, Tryz.ntmps82
  go_wp2_with fail
  refine hcl.mono ?_
  rintro e w1 ⟨⟨v, rfl, hown⟩, hb1⟩
  obtain ⟨a1, c1, rfl, hr1, h1, h2, h3⟩ := hown.row
  have HR := hide_it hr1
  have hb2 : Below w1.heap.size w1 (w1.alloc (.cells #[.slice a1 zs.length c1, .int .i64 0] 166)) := (Below.refl _ _).alloc (Nat.le_refl _) _
  clear hcl hown hr1
  go_wp2_with fail
  go_ret
  refine ⟨w1.heap.size, rfl, hb1.size, ⟨by simp, a1, c1, heap_alloc_new w1 _, HR.out.below hb2, h1, h2, h3⟩, hb1.trans (hb2.mono hb1.size)⟩

theorem BoxN.under {w w' : World} {B E : Nat} {x : En} {a : Option Addr} {c : Nat} (h : BoxN w E x a c) (hb : Below B w w') (hE : E < B) : BoxN w' E x a c := (hb.block E hE).trans h

/-- What a walk of Decode knows behind its test: the answer's box, the entry that was read, what was made. -/
structure DcS (w0 w : World) (E : Nat) (x : En) (a : Option Addr) (c : Nat) : Prop where
  res : BoxN w w0.heap.size zeroEn none 0
  box : BoxN w E x a c
  own : OwnB w (w0.heap.size + 1) (.slice a x.val.length c) x.val
  bel : Below w0.heap.size w0 w
theorem DcS.below {w0 w w' : World} {E : Nat} {x : En} {a : Option Addr} {c : Nat} (h : DcS w0 w E x a c) (hb : Below w.heap.size w w') : DcS w0 w' E x a c :=
  ⟨h.res.under hb h.res.lt, h.box.under hb h.box.lt, h.own.below hb, h.bel.trans (hb.mono h.bel.size)⟩
theorem DcS.fill {w0 w : World} {E : Nat} {x : En} {a : Option Addr} {c : Nat} (h : DcS w0 w E x a c) (y : En) (a' : Option Addr) (c' : Nat) :
    OwnB (fillE w w0.heap.size y a' c') w0.heap.size (.slice a x.val.length c) x.val ∧ Below w0.heap.size w0 (fillE w w0.heap.size y a' c') :=
  ⟨(h.own.fill (Nat.lt_succ_self _) y a' c').mono (Nat.le_succ _), (((((h.bel.setCell (Nat.le_refl _) _).setCell (Nat.le_refl _) _).setCell (Nat.le_refl _) _).setCell (Nat.le_refl _) _).setCell (Nat.le_refl _) _).setCell (Nat.le_refl _) _⟩

set_option maxRecDepth 100000 in
set_option maxHeartbeats 1000000 in
theorem decode_any (a : Option Addr) (cap : Nat) (bs : List Nat) (w : World) (hr : RowB w a bs) (h8 : All8 bs) (hl : bs.length ≤ 211106232532800) (hnil : a = none → bs.length = 0 ∧ cap = 0) :
    Calls Tryz.prog 55 #[.slice a bs.length cap] w fun e w' => DecTo w bs e w' := by
  have hb0 := boxE_below w zeroEn none 0
  have hres0 : BoxN (boxE w zeroEn none 0) w.heap.size zeroEn none 0 := heap_alloc_new w _
  have hopen := open_wide a cap bs (boxE w zeroEn none 0) (hr.below hb0) hl hnil
  obtain ⟨Q, hQ⟩ : ∃ Q, Q = DecTo w bs := ⟨_, rfl⟩
  rw [← hQ]
  have hdec := dec_first bs
  replace hQ := hide_it hQ
  have hz0 : (boxE w zeroEn none 0).heap.size = w.heap.size + 1 := by simp
  rw [hz0] at hopen
  replace hz0 := hide_it hz0
  clear hr
  go_enter Tryz.func55, Tryz.ntmps55
  go_wp2_with fail
  refine hopen.mono ?_
  rintro e w1 ⟨p, rfl, hp, hrd, hb1⟩
  have hst : Rst w1 (some ⟨p, 0, none⟩) (bs, 0) := .inr ⟨p, rfl, hrd, h8⟩
  have hres1 : BoxN w1 w.heap.size zeroEn none 0 := hres0.under hb1 (by omega)
  have hB1 := hb0.trans (hb1.mono (by omega))
  have htk := take_any p (bs, 0) w1 hst
  have hp1 := hrd.1
  obtain ⟨⟨k, s1⟩, h0⟩ : ∃ r, r = rdOf 0 (takeFixed 1) (bs, 0) := ⟨_, rfl⟩
  rw [← h0] at htk hdec
  simp only at htk hdec
  clear h0 hopen hres0 hrd hst hb0 hb1
  go_wp2_with fail
  refine htk.mono ?_
  rintro e w2 ⟨a2, c2, rfl, hown2, hst2, hg2⟩
  obtain ⟨r, hrr⟩ : ∃ r, r = tkE (k : Int) s1 := ⟨_, rfl⟩
  have hd : decP (k : Int) s1 = if r.1.2 = true ∧ endOf r.2.1 r.2.2 = 0 ∧ mayE r.1.1 = true then some r.1.1 else none := by rw [hrr]; rfl
  rw [← hrr] at hown2 hst2 ⊢
  rw [hd] at hdec
  clear hrr hd htk
  obtain ⟨⟨x, whole⟩, s2⟩ := r
  simp only at hown2 hst2 hdec ⊢
  have hD2 : DcS w (boxE w2 x a2 c2) w2.heap.size x a2 c2 := by
    have hbx := boxE_below w2 x a2 c2
    have hne : w.heap.size ≠ p := by omega
    have hB2 : Below w.heap.size w w2 := hB1.grown hg2 (by have := hB1.size; omega) (fun j e => by cases e; omega)
    refine ⟨(hres1.grown hg2 hne).under hbx (hres1.grown hg2 hne).lt, heap_alloc_new w2 _, (hown2.mono (by omega)).below hbx, hB2.trans (hbx.mono hB2.size)⟩
  have hR2 : BoxN w2 w.heap.size zeroEn none 0 := hres1.grown hg2 (by omega)
  have hB2 : Below w.heap.size w w2 := hB1.grown hg2 (by have := hB1.size; omega) (fun j e => by cases e; omega)
  have hbad1 : whole = false → ∀ (b : Option Addr) (E : World → World), (∀ w3, Below w.heap.size w w3 → Below w.heap.size w (E w3)) → Q (.returned (.tuple #[valE zeroEn none 0, .int .i64 100])) (E (fillE w2 w.heap.size zeroEn none 0)) := fun hwf _ E hE => by
    have hdn : decE bs = none := by rw [← hdec, if_neg (by rw [hwf]; rintro ⟨h, _⟩; cases h)]
    rw [hQ.out]
    refine ⟨⟨none, 0, by rw [hdn]; rfl, by rw [hdn]; exact World.ownsRow_nil _ _ _ _⟩, hE _ ?_⟩
    exact (((((hB2.setCell (Nat.le_refl _) _).setCell (Nat.le_refl _) _).setCell (Nat.le_refl _) _).setCell (Nat.le_refl _) _).setCell (Nat.le_refl _) _).setCell (Nat.le_refl _) _
  have hend := hst2.below (boxE_below w2 x a2 c2)
  have HD := hide_it hdec
  have hbad : ∀ w3, DcS w w3 w2.heap.size x a2 c2 → (¬ (whole = true ∧ endOf s2.1 s2.2 = 0 ∧ mayE x = true)) → Q (.returned (.tuple #[valE zeroEn none 0, .int .i64 100])) (fillE w3 w.heap.size zeroEn none 0) := fun w3 h hn => by
    have hdn : decE bs = none := by rw [← HD.out, if_neg hn]
    rw [hQ.out]
    refine ⟨⟨none, 0, by rw [hdn]; rfl, by rw [hdn]; exact World.ownsRow_nil _ _ _ _⟩, (h.fill zeroEn none 0).2⟩
  have hgood : ∀ w3, DcS w w3 w2.heap.size x a2 c2 → (whole = true ∧ endOf s2.1 s2.2 = 0 ∧ mayE x = true) → Q (.returned (.tuple #[valE x a2 c2, .int .i64 0])) (fillE w3 w.heap.size x a2 c2) := fun w3 h hn => by
    have hdn : decE bs = some x := by rw [← HD.out, if_pos hn]
    rw [hQ.out]
    refine ⟨⟨a2, c2, by rw [hdn]; rfl, by rw [hdn]; exact (h.fill x a2 c2).1⟩, (h.fill x a2 c2).2⟩
  have HM : Hid (chkE x = if mayE x then 0 else 100) := rfl
  have hs2 : Hid (w.heap.size ≤ w2.heap.size) := hB2.size
  clear hdec HD hown2 hst2 hg2 hres1 hB1 hB2 hp hp1 h8 hl hnil hQ hz0
  obtain ⟨en, HEN⟩ : ∃ n, n = endOf s2.1 s2.2 := ⟨_, rfl⟩
  rw [← HEN] at hbad hgood
  replace HEN := hide_it HEN
  obtain ⟨ch, HCH⟩ : ∃ n, n = chkE x := ⟨_, rfl⟩
  rw [← HCH] at HM
  replace HCH := hide_it HCH
  generalize mayE x = my at *
  obtain ⟨kind, stamp, count, key, val, dead⟩ := x
  cases whole
  · obtain ⟨d0, d1, d2, d3, d4, d5⟩ := hR2.inE
    have hy := hR2.soft
    have hlt := hR2.lt
    have hbad2 : Hid (Q (.returned (.tuple #[.agg #[.int .i64 0, .int .i64 0, .int .i64 0, .string ⟨#[]⟩, .slice none 0 0, .bool false], .int .i64 100])) (((((((w2.setCell ⟨w.heap.size, 0, none⟩ (.int .i64 0)).setCell ⟨w.heap.size, 1, none⟩ (.int .i64 0)).setCell ⟨w.heap.size, 2, none⟩ (.int .i64 0)).setCell ⟨w.heap.size, 3, none⟩ (.string ⟨#[]⟩)).setCell ⟨w.heap.size, 4, none⟩ (.slice none 0 0)).setCell ⟨w.heap.size, 5, none⟩ (.bool false)).alloc (.cells #[.int .i64 kind, .int .i64 stamp, .int .i64 count, .string key, .slice a2 val.length c2, .bool dead] 77))) := hbad1 rfl none (fun W => W.alloc (.cells #[.int .i64 kind, .int .i64 stamp, .int .i64 count, .string key, .slice a2 val.length c2, .bool dead] 77)) (fun w3 h => h.alloc h.size _)
    clear hbad1
    clear hbad hgood hD2 hend hR2
    go_wp2_with fail
    refine bodyPost_ret (v := .tuple #[.agg #[.int .i64 0, .int .i64 0, .int .i64 0, .string ⟨#[]⟩, .slice none 0 0, .bool false], .int .i64 100]) ?_ rfl hbad2.out
    simp [results, Tryz.results55, go_sem, d0, d1, d2, d3, d4, d5, hlt]
  · clear hbad1 hR2
    go_wp2_with fail
    change DcS w (w2.alloc (.cells #[.int .i64 kind, .int .i64 stamp, .int .i64 count, .string key, .slice a2 val.length c2, .bool dead] 77)) w2.heap.size _ a2 c2 at hD2
    change Rst (w2.alloc (.cells #[.int .i64 kind, .int .i64 stamp, .int .i64 count, .string key, .slice a2 val.length c2, .bool dead] 77)) _ _ at hend
    generalize w2.alloc (.cells #[.int .i64 kind, .int .i64 stamp, .int .i64 count, .string key, .slice a2 val.length c2, .bool dead] 77) = W at hD2 hend ⊢
    have hck := check_any ⟨kind, stamp, count, key, val, dead⟩ a2 c2 W
    have hend := end_st (some ⟨p, 0, none⟩) s2 W hend
    rw [← HEN.out] at hend
    rw [← HCH.out] at hck
    refine hend.mono ?_
    rintro e w3 ⟨rfl, hq⟩
    have hq2 := hq.symm
    subst hq2
    clear hq hend
    by_cases hen : en = 0
    · subst hen
      obtain ⟨c0, c1, c2', c3, c4, c5⟩ := hD2.box.inE
      simp only at c0 c1 c2' c3 c4 c5
      go_wp2_with fail
      refine hck.mono ?_
      rintro e w4 ⟨rfl, hb4⟩
      have hD4 := hD2.below hb4
      clear hD2 hck hb4 c0 c1 c2' c3 c4 c5
      obtain ⟨c0, c1, c2', c3, c4, c5⟩ := hD4.box.inE
      obtain ⟨d0, d1, d2, d3, d4, d5⟩ := hD4.res.inE
      have hy := hD4.res.soft
      simp only at c0 c1 c2' c3 c4 c5
      cases my
      · have hch : ch = 100 := HM.out
        subst hch
        have hend : Q (.returned (.tuple #[.agg #[.int .i64 0, .int .i64 0, .int .i64 0, .string ⟨#[]⟩, .slice none 0 0, .bool false], .int .i64 100])) ((((((w4.setCell ⟨w.heap.size, 0, none⟩ (.int .i64 0)).setCell ⟨w.heap.size, 1, none⟩ (.int .i64 0)).setCell ⟨w.heap.size, 2, none⟩ (.int .i64 0)).setCell ⟨w.heap.size, 3, none⟩ (.string ⟨#[]⟩)).setCell ⟨w.heap.size, 4, none⟩ (.slice none 0 0)).setCell ⟨w.heap.size, 5, none⟩ (.bool false)) := hbad w4 hD4 (by rintro ⟨_, _, h⟩; cases h)
        clear hbad hgood HM
        go_wp2_with fail
        refine bodyPost_ret (v := .tuple #[.agg #[.int .i64 0, .int .i64 0, .int .i64 0, .string ⟨#[]⟩, .slice none 0 0, .bool false], .int .i64 100]) ?_ rfl hend
        simp [results, Tryz.results55, go_sem, d0, d1, d2, d3, d4, d5]
      · have hch : ch = 0 := HM.out
        subst hch
        have hend := hgood w4 hD4 (by simp)
        clear hbad hgood HM
        go_wp2_with fail
        exact bodyPost_ret (v := .tuple #[valE ⟨kind, stamp, count, key, val, dead⟩ a2 c2, .int .i64 0]) (by simp [results, Tryz.results55, go_sem, d0, d1, d2, d3, d4, d5]) rfl hend
    · have hne : ((en : Int) == 0) = false := by rw [beq_eq_false_iff_ne]; omega
      have hne2 : ((en : Int) != 0) = true := by rw [bne_iff_ne]; omega
      obtain ⟨d0, d1, d2, d3, d4, d5⟩ := hD2.res.inE
      have hy := hD2.res.soft
      have hend : Q (.returned (.tuple #[.agg #[.int .i64 0, .int .i64 0, .int .i64 0, .string ⟨#[]⟩, .slice none 0 0, .bool false], .int .i64 100])) ((((((W.setCell ⟨w.heap.size, 0, none⟩ (.int .i64 0)).setCell ⟨w.heap.size, 1, none⟩ (.int .i64 0)).setCell ⟨w.heap.size, 2, none⟩ (.int .i64 0)).setCell ⟨w.heap.size, 3, none⟩ (.string ⟨#[]⟩)).setCell ⟨w.heap.size, 4, none⟩ (.slice none 0 0)).setCell ⟨w.heap.size, 5, none⟩ (.bool false)) := hbad W hD2 (by rintro ⟨_, h, _⟩; exact hen h)
      clear hbad hgood HM hck hen hD2
      go_wp2_with fail
      refine bodyPost_ret (v := .tuple #[.agg #[.int .i64 0, .int .i64 0, .int .i64 0, .string ⟨#[]⟩, .slice none 0 0, .bool false], .int .i64 100]) ?_ rfl hend
      simp [results, Tryz.results55, go_sem, d0, d1, d2, d3, d4, d5]
end Go.Proofs.YtkacfpmninmjkaaGreat
