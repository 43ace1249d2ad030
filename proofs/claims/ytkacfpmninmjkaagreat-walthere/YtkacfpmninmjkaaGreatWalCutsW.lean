/- WalCuts, walked. -/
import Derived.Test.YtkacfpmninmjkaaGreatWx3
namespace Go.Proofs.YtkacfpmninmjkaaGreat
open Go.RowKit

theorem bysE_split (es : List En) (j : Nat) : bysE es = bysE (es.take j) ++ bysE (es.drop j) := by rw [← bysE_append, List.take_append_drop]
theorem bysE_take (es : List En) (j : Nat) : (bysE es).take (bysE (es.take j)).length = bysE (es.take j) := by
  conv => lhs; arg 2; rw [bysE_split es j]
  exact List.take_left
theorem bysE_drop (es : List En) (j : Nat) : (bysE es).drop (bysE (es.take j)).length = bysE (es.drop j) := by
  conv => lhs; arg 2; rw [bysE_split es j]
  exact List.drop_left
/-- Where entries end. -/
def endZ (e : Nat) (es : List En) : List Nat := (endsE e es).map Prod.snd
theorem endZ_len (e : Nat) (es : List En) : (endZ e es).length = es.length := by unfold endZ; rw [List.length_map, endsE_len]
theorem endZ_split (es : List En) (j : Nat) (hj : j ≤ es.length) : (endZ 0 es).take j = endZ 0 (es.take j) ∧ (endZ 0 es).drop j = endZ (bysE (es.take j)).length (es.drop j) := by
  have e1 : endZ 0 es = endZ 0 (es.take j) ++ endZ (bysE (es.take j)).length (es.drop j) := by
    unfold endZ
    rw [← List.map_append]
    have := endsE_append 0 (es.take j) (es.drop j)
    rw [List.take_append_drop, Nat.zero_add] at this
    rw [this]
  have hl : (endZ 0 (es.take j)).length = j := by rw [endZ_len, List.length_take]; omega
  rw [e1]
  exact ⟨by rw [List.take_append_of_le_length (by omega), List.take_of_length_le (by omega)], by rw [List.drop_append_of_le_length (by omega), List.drop_eq_nil_of_le (by omega), List.nil_append]⟩
theorem endZ_shift (B : Nat) (es : List En) : (endsE 0 es).map (fun z => B + z.2) = endZ B es := by
  unfold endZ
  have := endsE_shift 0 B es
  rw [Nat.zero_add] at this
  rw [this, List.map_map]
  exact List.map_congr_left fun x _ => by simp; omega
theorem endZ_get {es : List En} {i : Nat} (hi : i < es.length) : (endZ 0 es)[i]? = some (bysE (es.take (i + 1))).length := by
  unfold endZ
  rw [List.getElem?_map, endsE_get 0 hi]
  simp
theorem Ets.take {w : World} {F : Nat → Prop} {a : Option Addr} {xs : List Ent} (h : Ets w F a xs) (j : Nat) : Ets w F a (xs.take j) := by
  refine ⟨?_, fun x hx => h.each x (List.mem_of_mem_take hx)⟩
  rcases h.row with h0 | ⟨b, o, e, hl, hF, hr⟩
  · exact .inl (by rw [List.length_take]; omega)
  · refine .inr ⟨b, o, e, hl, hF, fun i x hi => hr i x ?_⟩
    by_cases hij : i < j
    · rwa [List.getElem?_take_of_lt hij] at hi
    · rw [List.getElem?_eq_none (by rw [List.length_take]; omega)] at hi; cases hi
theorem Ets.drop {w : World} {F : Nat → Prop} {a : Option Addr} {xs : List Ent} {c : Nat} (h : Ets w F a xs) (hc : xs.length ≤ c) (j : Nat) (hj : j ≤ xs.length) : Ets w F (if c = j then a else a.map (·.add (j * 6))) (xs.drop j) := by
  refine ⟨?_, fun x hx => h.each x (List.mem_of_mem_drop hx)⟩
  rcases h.row with h0 | ⟨b, o, e, hl, hF, hr⟩
  · exact .inl (by rw [List.length_drop]; omega)
  · by_cases hce : c = j
    · exact .inl (by rw [List.length_drop]; omega)
    · rw [if_neg hce, e]
      refine .inr ⟨b, o + j * 6, by simp [Addr.add], hl, hF, fun i x hi => ?_⟩
      rw [List.getElem?_drop] at hi
      have := hr (j + i) x hi
      rwa [show o + (j + i) * 6 = o + j * 6 + i * 6 by rw [Nat.add_mul]; omega] at this
theorem RowZ.take {w : World} {a : Option Addr} {ns : List Nat} (h : RowZ w a ns) (j : Nat) : RowZ w a (ns.take j) := by
  rcases h with h0 | ⟨b, o, e, hl, hr⟩
  · exact .inl (by rw [List.length_take]; omega)
  · refine .inr ⟨b, o, e, hl, fun i x hi => hr i x ?_⟩
    by_cases hij : i < j
    · rwa [List.getElem?_take_of_lt hij] at hi
    · rw [List.getElem?_eq_none (by rw [List.length_take]; omega)] at hi; cases hi
theorem RowZ.drop {w : World} {a : Option Addr} {ns : List Nat} {c : Nat} (h : RowZ w a ns) (hc : ns.length ≤ c) (j : Nat) (hj : j ≤ ns.length) : RowZ w (if c = j then a else a.map (·.add j)) (ns.drop j) := by
  rcases h with h0 | ⟨b, o, e, hl, hr⟩
  · exact .inl (by rw [List.length_drop]; omega)
  · by_cases hce : c = j
    · exact .inl (by rw [List.length_drop]; omega)
    · rw [if_neg hce, e]
      refine .inr ⟨b, o + j, by simp [Addr.add], hl, fun i x hi => ?_⟩
      rw [List.getElem?_drop] at hi
      have := hr (j + i) x hi
      rwa [show o + (j + i) = o + j + i by omega] at this
theorem NumN.low {w : World} {N : Nat} {a : Option Addr} {n c : Nat} {ns : List Nat} (h : NumN w N (.slice a n c) ns) : ∀ ad, a = some ad → N ≤ ad.block := fun ad e => by
  subst e
  exact (ownsRow_inN h (j := ad.block) rfl).1
theorem RowZ.chg {w w' : World} {F : Nat → Prop} {a : Option Addr} {ns : List Nat} (h : RowZ w a ns) (hc : Chg F w w') (hf : farA F a) : RowZ w' a ns := by
  rcases h with h0 | ⟨b, o, e, hl, hr⟩
  · exact .inl h0
  · exact .inr ⟨b, o, e, Nat.lt_of_lt_of_le hl hc.size, fun i z hi => (hc.cell (a := ⟨b, o + i, none⟩) hl (hf ⟨b, o, none⟩ e)).trans (hr i z hi)⟩
theorem opS_cut (x : Pt) (E : Nat) (h1 : x.B ≤ E) (h2 : E ≤ x.B + x.bs.length) : opS false x 2 (E : Int) [] = (0, { x with bs := x.bs.take (E - x.B), k := min x.k (E - x.B), c := x.c + 1 }) := by
  have e1 : ((E : Int) - (x.B : Int)).toNat = E - x.B := by omega
  unfold opS opX
  rw [if_neg (by simp [down]), if_neg (by omega), if_neg (by omega), if_pos rfl, if_neg (by omega), e1]
theorem opS_trim (x : Pt) (E : Nat) (h1 : x.B ≤ E) (h2 : E ≤ x.B + x.k) : opS false x 3 (E : Int) [] = (0, { x with B := E, bs := x.bs.drop (E - x.B), k := x.k - (E - x.B), c := x.c + 1 }) := by
  have e1 : ((E : Int) - (x.B : Int)).toNat = E - x.B := by omega
  unfold opS opX
  rw [if_neg (by simp [down]), if_neg (by omega), if_neg (by omega), if_neg (by omega), if_neg (by omega), e1, show x.B + (E - x.B) = E by omega]
end Go.Proofs.YtkacfpmninmjkaaGreat

namespace Go.Proofs.YtkacfpmninmjkaaGreat.walCuts
open Go.RowKit

set_option maxRecDepth 100000 in
set_option maxHeartbeats 1600000 in
theorem walk (a0 : Option Addr) (n0 c0 : Nat) (A0 : Nat → Ent) (x1 : Int) (_ : -9223372036854775808 ≤ x1 ∧ x1 ≤ 9223372036854775807) (x2 : Bool) (w : World) (s0 : CameEnt w a0 n0 A0 ∧ n0 ≤ 1048576) :
    Calls Tryz.prog 7 #[.slice a0 n0 c0, .int .i64 x1, .bool x2] w fun e w' => e = .returned (.bool true) ∧ Below w.heap.size w w' := by
  have hnew := newD_any 1 w
  obtain ⟨xs0, hxs0⟩ : ∃ xs, xs = (List.range n0).map A0 := ⟨_, rfl⟩
  have hn0 : n0 = xs0.length := by rw [hxs0]; simp
  have HE0 : Hid (∀ F : Nat → Prop, (∀ b, F b → w.heap.size ≤ b) → Ets w F a0 xs0) := fun F hF => by rw [hxs0]; exact s0.1.ets hF
  have hl0 := s0.2
  rw [hn0] at hl0 ⊢
  clear s0 hxs0 hn0
  go_enter Tryz.func7, Tryz.ntmps7
  go_wp2_with fail
  refine hnew.mono ?_
  rintro e w1 (⟨n, hn, h1, hM⟩ | ⟨hno, _, _⟩)
  · obtain rfl : n = 1 := by omega
    obtain ⟨p, hep, hdp⟩ := hM.ex
    subst hep
    have hfx := walFixed_any w1
    clear hnew hn h1
    go_wp2_with fail
    refine hfx.mono ?_
    rintro e w2 ⟨rfl, hb2⟩
    clear hfx
    have hbw2 := hM.bel.trans (hb2.mono hM.bel.size)
    have hop := opened hbw2 (hdp.below hb2) (x := zeroPt) rfl (fun b hb => hb.1)
    clear hdp hM
    generalize hF0 : (fun b => w.heap.size ≤ b ∧ b < w1.heap.size) = F at hop
    have hFw : ∀ b, F b → w.heap.size ≤ b := fun b hb => by rw [← hF0] at hb; exact hb.1
    clear hF0
    go_wp2_with fail
    refine hop.mono ?_
    rintro e w3 ⟨L, rfl, hN3, hL3, hb3⟩
    have hft := fit_any a0 c0 xs0 w3 F ((HE0.out F hFw).below hN3.bel) hN3.lt (by omega)
    clear hop
    go_wp2_with fail
    refine hft.mono ?_
    rintro e w4 ⟨⟨a4, c4, rfl, he4, hc4, hn4⟩, hb4⟩
    have hf0 := fitE_few xs0
    have hok0 := fitE_ok he4
    have hmp0 : (fitE (fitE xs0)).map Ent.en = (fitE xs0).map Ent.en := by unfold fitE; rw [List.filter_filter]; simp
    rw [hmp0] at hok0
    generalize fitE xs0 = fs0 at *
    have hN4 := hN3.below hb4
    have hgr := hN4.group a4 c4 fs0 he4 (by simp [zeroPt]; omega) (by simp [zeroPt]; omega) (by simp [zeroPt]; omega)
    rw [gr_ok hok0] at hgr
    clear hft hN3 hmp0
    go_wp2_with fail
    refine hgr.mono ?_
    rintro e w5 ⟨rfl, hN5, hg5⟩
    have he5 := he4.chg hg5
    clear hgr hN4 he4
    have hbl0 := bysE_len hok0
    rw [List.length_map] at hbl0
    simp only [zeroPt, List.nil_append, Nat.zero_add, List.length_map] at hN5 ⊢
    generalize hF5 : upto F w4 w5 = F5 at *
    obtain ⟨es, hes⟩ : ∃ es, es = fs0.map Ent.en := ⟨_, rfl⟩
    have hel : es.length = fs0.length := by rw [hes]; simp
    have HES := hide_it hes
    rw [← hes] at hok0 hbl0 hN5
    have hen := hN5.entries (by show (bysE es).length ≤ _; omega)
    simp only at hen
    have HEL := hide_it hel
    clear hes hel
    go_wp2_with fail
    refine hen.mono ?_
    rintro e w6 ⟨⟨ve, vn, ts, ns, rfl, hdoc, hnum, hte, hns⟩, hb6⟩
    rw [lgF_all hok0, endZ_shift] at hns
    subst hns
    obtain ⟨ea, ec, rfl, hets, _, _, _⟩ := hdoc.ets (F := fun _ => False) (fun _ h => h.elim)
    obtain ⟨na, nc, rfl, hrz, hnc, hncm, _⟩ := hnum.row
    have hfz : farA F5 na := fun ad e hx => by have := hnum.low ad e; have := hN5.lt _ hx; omega
    have hN6 := hN5.below hb6
    have he6 := he5.below hb6
    have hzl := endZ_len 0 es
    rw [hzl, HEL.out] at hnc
    rw [hzl, HEL.out]
    have HZL := hide_it hzl
    clear hen hdoc hnum hets hN5 he5 hzl
    by_cases hx0 : x1 < 0
    · have hd0 : decide (x1 < 0) = true := by simpa using hx0
      go_wp2_with fail
      go_ret
      exact ⟨rfl, hN6.bel⟩
    · by_cases hx1 : (fs0.length : Int) ≤ x1
      · have hd0 : decide (x1 < 0) = false := by simp; omega
        have hd1 : decide ((fs0.length : Int) ≤ x1) = true := by simpa using hx1
        go_wp2_with fail
        go_ret
        exact ⟨rfl, hN6.bel⟩
      · obtain ⟨m, rfl⟩ : ∃ m : Nat, x1 = (m : Int) := ⟨x1.toNat, by omega⟩
        have hm : m < fs0.length := by omega
        have hd0 : decide ((m : Int) < 0) = false := by simp
        have hd1 : decide ((fs0.length : Int) ≤ (m : Int)) = false := by simp; omega
        obtain ⟨b1, o1, rfl, hbl1, hcl1⟩ : ∃ b o, na = some ⟨b, o, none⟩ ∧ b < w6.heap.size ∧ ∀ (i z : Nat), (endZ 0 es)[i]? = some z → w6.cell? ⟨b, o + i, none⟩ = some (.int .i64 (z : Int)) := by
          rcases hrz with h0 | h0
          · rw [HZL.out, HEL.out] at h0; omega
          · exact h0
        have hg := endZ_get (es := es) (i := m) (by rw [HEL.out]; exact hm)
        obtain ⟨E, hE⟩ : ∃ E, E = (bysE (es.take (m + 1))).length := ⟨_, rfl⟩
        rw [← hE] at hg
        have d0 := hcl1 m E hg
        have hsp := bysE_split es (m + 1)
        have hsl := congrArg List.length hsp
        rw [List.length_append, ← hE] at hsl
        have hEl : E ≤ (bysE es).length := by omega
        have HE := hide_it hE
        clear hsp hsl hg hE hcl1
        have hw1 : IntKind.i64.wrap ((m : Int) + 1) = ((m + 1 : Nat) : Int) := by
          simp only [IntKind.wrap, IntKind.bits, IntKind.signed]; simp; omega
        cases x2
        · have hcu := hN6.cut (E : Int) (by simp; omega)
          rw [opS_cut _ E (Nat.zero_le _) (by show E ≤ 0 + (bysE es).length; omega)] at hcu
          simp only [Nat.sub_zero] at hcu
          rw [Nat.min_eq_right hEl, HE.out, bysE_take, ← HE.out] at hcu
          go_wp2_with fail
          refine hcu.mono ?_
          rintro e w7 ⟨rfl, hN7, hg7⟩
          have he7 := he6.chg hg7
          simp only at hN7 ⊢
          have hz7 := hrz.chg hg7 hfz
          clear hcu hN6 he6 hrz
          have hok7 : ∀ x ∈ es.take (m + 1), OkE x := fun x hx => hok0 x (List.mem_of_mem_take hx)
          have hen := hN7.entries (by show (bysE (es.take (m + 1))).length ≤ _; have := HE.out; omega)
          simp only at hen
          go_wp2_with fail
          refine hen.mono ?_
          rintro e w8 ⟨⟨ve, vn, ts8, ns8, rfl, hdoc, hnum8, hte8, hns8⟩, hb8⟩
          rw [lgF_all hok7, endsE_fst] at hte8
          rw [lgF_all hok7, endZ_shift, ← (endZ_split es (m + 1) (by have := HEL.out; omega)).1] at hns8
          subst hns8
          obtain ⟨ea8, ec8, rfl, hets8, _, _, _⟩ := hdoc.ets (F := fun _ => False) (fun _ h => h.elim)
          obtain ⟨na8, nc8, rfl, hz8, _, _, _⟩ := hnum8.row
          have hzl8 : ((endZ 0 es).take (m + 1)).length = m + 1 := by rw [List.length_take, HZL.out, HEL.out]; omega
          have htl8 : ts8.length = m + 1 := by have := congrArg List.length hte8; rw [List.length_map, List.length_take, HEL.out] at this; omega
          have htk8 : (fs0.take (m + 1)).length = m + 1 := by rw [List.length_take]; omega
          rw [hzl8]
          have hal := alikeE_same ea8 a4 ec8 c4 ts8 (fs0.take (m + 1)) w8 hets8 ((he7.below hb8).any.take (m + 1)) (by rw [hte8, HES.out, List.map_take]) (by omega)
          have hN8 := hN7.below hb8
          have hz78 := hz7.below hb8
          rw [htl8, htk8] at hal
          rw [htl8]
          clear hen hdoc hnum8 hets8 hte8 hN7 he7 hz7 hzl8 htl8 htk8
          go_wp2_with fail
          refine hal.mono ?_
          rintro e w9 ⟨rfl, hb9⟩
          have hzt : (m + 1 : Nat) ≤ (endZ 0 es).length := by rw [HZL.out, HEL.out]; omega
          have heq := equalZ_same na8 (some ⟨b1, o1, none⟩) (m + 1) nc8 nc ((endZ 0 es).take (m + 1)) w9 (hz8.below hb9) ((hz78.below hb9).take (m + 1)) (by rw [List.length_take]; omega) (by omega)
          have hN9 := hN8.below hb9
          clear hal hz78 hz8 hN8 hzt
          go_wp2_with fail
          refine heq.mono ?_
          rintro e w10 ⟨rfl, hb10⟩
          clear heq
          go_wp2_with fail
          go_ret
          exact ⟨rfl, hN9.bel.trans (hb10.mono hN9.bel.size)⟩
        · have hcu := hN6.trim (E : Int) (by simp; omega)
          rw [opS_trim _ E (Nat.zero_le _) (by show E ≤ 0 + (bysE es).length; omega)] at hcu
          simp only [Nat.sub_zero] at hcu
          have hdr : (bysE es).drop E = bysE (es.drop (m + 1)) := by rw [HE.out, bysE_drop]
          rw [hdr] at hcu
          have hdl : (bysE (es.drop (m + 1))).length ≤ (bysE es).length := by rw [← hdr, List.length_drop]; omega
          clear hdr
          go_wp2_with fail
          refine hcu.mono ?_
          rintro e w7 ⟨rfl, hN7, hg7⟩
          have he7 := he6.chg hg7
          simp only at hN7 ⊢
          have hz7 := hrz.chg hg7 hfz
          clear hcu hN6 he6 hrz
          have hok7 : ∀ x ∈ es.drop (m + 1), OkE x := fun x hx => hok0 x (List.mem_of_mem_drop hx)
          have hen := hN7.entries (by show (bysE (es.drop (m + 1))).length ≤ _; omega)
          simp only at hen
          go_wp2_with fail
          refine hen.mono ?_
          rintro e w8 ⟨⟨ve, vn, ts8, ns8, rfl, hdoc, hnum8, hte8, hns8⟩, hb8⟩
          rw [lgF_all hok7, endsE_fst] at hte8
          rw [lgF_all hok7, endZ_shift, HE.out, ← (endZ_split es (m + 1) (by have := HEL.out; omega)).2] at hns8
          subst hns8
          obtain ⟨ea8, ec8, rfl, hets8, _, _, _⟩ := hdoc.ets (F := fun _ => False) (fun _ h => h.elim)
          obtain ⟨na8, nc8, rfl, hz8, _, _, _⟩ := hnum8.row
          have hzl8 : ((endZ 0 es).drop (m + 1)).length = fs0.length - (m + 1) := by rw [List.length_drop, HZL.out, HEL.out]
          have htl8 : ts8.length = fs0.length - (m + 1) := by have := congrArg List.length hte8; rw [List.length_map, List.length_drop, HEL.out] at this; omega
          have htk8 : (fs0.drop (m + 1)).length = fs0.length - (m + 1) := by rw [List.length_drop]
          rw [hzl8]
          have hdE := ((he7.below hb8).any).drop hc4 (m + 1) (by omega)
          obtain ⟨A8, hA8⟩ : ∃ A, A = if c4 = m + 1 then a4 else a4.map (fun x => x.add ((m + 1) * 6)) := ⟨_, rfl⟩
          rw [← hA8] at hdE
          have hdZ := (hz7.below hb8).drop (c := nc) (by rw [HZL.out, HEL.out]; exact hnc) (m + 1) (by rw [HZL.out, HEL.out]; omega)
          obtain ⟨Z8, hZ8⟩ : ∃ A, A = if nc = m + 1 then some (⟨b1, o1, none⟩ : Addr) else some ⟨b1, o1 + (m + 1), none⟩ := ⟨_, rfl⟩
          have hZ9 : (if nc = m + 1 then some (⟨b1, o1, none⟩ : Addr) else (some (⟨b1, o1, none⟩ : Addr)).map (fun x => x.add (m + 1))) = Z8 := by rw [hZ8]; simp [Addr.add]
          rw [hZ9] at hdZ
          clear hZ9
          have hZ9 := hZ8.symm
          clear hZ8
          have hal := alikeE_same ea8 A8 ec8 (c4 - (m + 1)) ts8 (fs0.drop (m + 1)) w8 hets8 hdE (by rw [hte8, HES.out, List.map_drop]) (by omega)
          have hN8 := hN7.below hb8
          rw [htl8, htk8] at hal
          rw [htl8]
          have hA9 := hA8.symm
          clear hen hdoc hnum8 hets8 hte8 hN7 he7 hz7 hzl8 htl8 htk8 hA8 hdE
          go_wp2_with fail
          refine hal.mono ?_
          rintro e w9 ⟨rfl, hb9⟩
          have heq := equalZ_same na8 Z8 (fs0.length - (m + 1)) nc8 (nc - (m + 1)) ((endZ 0 es).drop (m + 1)) w9 (hz8.below hb9) (hdZ.below hb9) (by rw [List.length_drop, HZL.out, HEL.out]) (by omega)
          have hN9 := hN8.below hb9
          clear hal hdZ hz8 hN8
          go_wp2_with fail
          refine heq.mono ?_
          rintro e w10 ⟨rfl, hb10⟩
          clear heq
          go_wp2_with fail
          go_ret
          exact ⟨rfl, hN9.bel.trans (hb10.mono hN9.bel.size)⟩
  · omega
end Go.Proofs.YtkacfpmninmjkaaGreat.walCuts
