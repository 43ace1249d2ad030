/- What a loss of power leaves of entries, as mathematics. -/
import Derived.Test.YtkacfpmninmjkaaGreatWalCutsW
namespace Go.Proofs.YtkacfpmninmjkaaGreat
open Go.RowKit

/-- What Write does where the power may go. -/
theorem wr_some (am : Bool) {es : List En} (h : ∀ x ∈ es, OkE x) : ∀ x : Pt, ∃ j, j ≤ es.length ∧ wrX am x es = ((if j = es.length then 0 else 80), { x with bs := x.bs ++ bysE (es.take j), c := x.c + j }) := by
  induction es with
  | nil => intro x; exact ⟨0, by simp, by simp [wrX, bysE]⟩
  | cons e t ih =>
    intro x
    unfold wrX
    rw [if_pos (h e (by simp)).1]
    by_cases hd : down am x = true
    · rw [if_pos hd]
      exact ⟨0, by simp, by simp [bysE]⟩
    · rw [if_neg hd]
      obtain ⟨j, h1, h2⟩ := ih (fun y hy => h y (by simp [hy])) { x with bs := x.bs ++ frE e, c := x.c + 1 }
      refine ⟨j + 1, by simpa using h1, ?_⟩
      rw [h2]
      simp only [List.length_cons, List.take_succ_cons, bysE, List.append_assoc]
      congr 1
      · by_cases hj : j = t.length
        · rw [if_pos hj, if_pos (by omega)]
        · rw [if_neg hj, if_neg (by omega)]
      · congr 1
        omega

theorem tear_at {l : List Nat} {i : Nat} (t : Nat) (hi : i + 1 < l.length) : at0 (tear l t) i = at0 l i := by
  unfold tear at0
  rw [List.getD_eq_getElem?_getD, List.getElem?_set_ne (by omega), List.getD_eq_getElem?_getD]
theorem tear_len (l : List Nat) (t : Nat) : (tear l t).length = l.length := by simp [tear]
theorem tear_append {xs ys : List Nat} (t : Nat) (hy : ys ≠ []) : tear (xs ++ ys) t = xs ++ tear ys t := by
  have hl : 0 < ys.length := List.length_pos_iff.2 hy
  unfold tear
  have e1 : xs.length + ys.length - 1 - xs.length = ys.length - 1 := by omega
  have e2 : at0 (xs ++ ys) (xs.length + ys.length - 1) = at0 ys (ys.length - 1) := by
    unfold at0
    rw [List.getD_eq_getElem?_getD, List.getD_eq_getElem?_getD, List.getElem?_append_right (by omega), e1]
  rw [List.length_append, e2, List.set_append_right _ _ (by omega), e1]
theorem tear_take {l : List Nat} (t : Nat) {n : Nat} (hn : n < l.length) : (tear l t).take n = l.take n := by
  unfold tear
  exact List.take_set_of_le (by omega)
theorem tear_drop {l : List Nat} (t : Nat) {n : Nat} (hn : n < l.length) : (tear l t).drop n = tear (l.drop n) t := by
  have h1 : l = l.take n ++ l.drop n := (List.take_append_drop n l).symm
  have h2 : (l.take n).length = n := by rw [List.length_take]; omega
  have h3 : l.drop n ≠ [] := by
    intro e
    have := congrArg List.length e
    rw [List.length_drop] at this
    simp at this
    omega
  conv => lhs; rw [h1, tear_append t h3]
  rw [List.drop_append_of_le_length (by omega), List.drop_eq_nil_of_le (by omega), List.nil_append]

theorem head_len {x : En} (h : OkE x) (t : Nat) {k : Nat} (hk : k ≤ (frE x).length) (hk9 : 9 ≤ k) : lnF (tear ((frE x).take k) t) = (encE x).length := by
  have e5 : ∀ l : List Nat, (l.drop 1).take 4 = (l.take 5).drop 1 := fun l => by rw [List.drop_take]
  unfold lnF
  rw [e5, tear_take t (by rw [List.length_take]; omega), List.take_take, Nat.min_eq_left (by omega), ← e5]
  have := lnF_head (n := (encE x).length) (by have := encE_len h.1; omega) (encE x ++ beP 4 (moreN 0 (smd (encE x))) 4)
  have e : frE x = hdF (encE x).length ++ (encE x ++ beP 4 (moreN 0 (smd (encE x))) 4) := by simp [frE, frm, smd]
  rw [← e] at this
  exact this
/-- The beginning of a frame, its last byte torn or not: no frame, unless it is whole and not torn. -/
theorem cut_frame {x : En} (h : OkE x) (t : Nat) {k : Nat} (hk : k < (frE x).length) : ∃ c, rdF (tear ((frE x).take k) t) = .error c := by
  have hlen := (frE_len h.1)
  have hL : (tear ((frE x).take k) t).length = k := by rw [tear_len, List.length_take]; omega
  unfold rdF
  by_cases h0 : k = 0
  · exact ⟨_, by rw [if_pos (by omega)]⟩
  rw [if_neg (by omega)]
  by_cases hm : at0 (tear ((frE x).take k) t) 0 ≠ 197
  · exact ⟨_, by rw [if_pos hm]⟩
  rw [if_neg hm]
  by_cases h5 : (tear ((frE x).take k) t).length < 5
  · exact ⟨_, by rw [if_pos h5]⟩
  rw [if_neg h5]
  by_cases hbig : 65536 < lnF (tear ((frE x).take k) t)
  · exact ⟨_, by rw [if_pos hbig]⟩
  rw [if_neg hbig]
  by_cases hsh : (tear ((frE x).take k) t).length < lnF (tear ((frE x).take k) t) + 9
  · exact ⟨_, by rw [if_pos hsh]⟩
  exfalso
  rw [hL] at hsh h5
  have hln : lnF (tear ((frE x).take k) t) = (encE x).length := head_len h t (by omega) (by omega)
  omega
theorem tear_all {l : List Nat} {t : Nat} (h : All8 l) (ht : t < 256) : All8 (tear l t) := by
  intro z hz
  unfold tear at hz
  rcases List.mem_or_eq_of_mem_set hz with h1 | rfl
  · exact h z h1
  · by_cases h0 : l.length = 0
    · have : l = [] := List.eq_nil_of_length_eq_zero h0
      subst this
      simp at hz
    · have h2 : at0 l (l.length - 1) < 256 := by
        unfold at0
        rw [List.getD_eq_getElem?_getD, List.getElem?_eq_getElem (by omega)]
        exact h _ (List.getElem_mem _)
      exact Nat.xor_lt_two_pow (n := 8) h2 ht
theorem torn_frame {x : En} (h : OkE x) {t : Nat} (ht8 : t < 256) (ht : tear (frE x) t ≠ frE x) : ∃ c, rdF (tear (frE x) t) = .error c := by
  have hlen := (frE_len h.1)
  cases hr : rdF (tear (frE x) t) with
  | error c => exact ⟨c, rfl⟩
  | ok n =>
    exfalso
    have h8 := tear_all (frE_all h) ht8
    have hln : lnF (tear (frE x) t) = (encE x).length := by
      have := head_len h t (k := (frE x).length) (by omega) (by omega)
      rwa [List.take_length] at this
    obtain ⟨_, h1, _, _, _⟩ := rdF_ok hr
    obtain ⟨_, h3, h4, _⟩ := rdF_form h8 hr
    have hn : n = (encE x).length := by omega
    subst hn
    have hp : ((tear (frE x) t).drop 5).take (encE x).length = encE x := by
      have e5 : ∀ (l : List Nat) (n : Nat), (l.drop 5).take n = (l.take (n + 5)).drop 5 := fun l n => by rw [List.drop_take, Nat.add_sub_cancel]
      rw [e5, tear_take t (by omega), ← e5]
      have := pay_back (encE x) []
      rw [List.append_nil] at this
      exact this
    rw [hp, List.take_of_length_le (by rw [tear_len]; omega)] at h4
    exact ht h4

/-- The beginning of the bytes of entries, its last byte torn or not, tells the first few. -/
theorem torn_many {t : Nat} (ht8 : t < 256) {xs : List En} (h : ∀ x ∈ xs, OkE x) : ∀ (e c : Nat), c ≤ (bysE xs).length → ∃ i, i ≤ xs.length ∧ lgF e (tear ((bysE xs).take c) t) = endsE e (xs.take i) := by
  induction xs with
  | nil =>
    intro e c _
    refine ⟨0, by simp, ?_⟩
    simp [bysE, tear, endsE, lgF_nil]
  | cons x r ih =>
    intro e c hc
    have hx := h x (by simp)
    have hL := (frE_len hx.1).1
    simp only [bysE, List.length_append] at hc
    by_cases h1 : c < (frE x).length
    · obtain ⟨q, hq⟩ := cut_frame hx t h1
      refine ⟨0, by simp, ?_⟩
      simp only [bysE]
      rw [List.take_append_of_le_length (by omega), lgF_stop hq]
      rfl
    · by_cases h2 : c = (frE x).length
      · simp only [bysE]
        rw [List.take_append_of_le_length (by omega), List.take_of_length_le (by omega)]
        by_cases h3 : tear (frE x) t = frE x
        · refine ⟨1, by simp, ?_⟩
          have := lgF_frame hx e []
          rw [List.append_nil, lgF_nil] at this
          rw [h3, this]
          simp [endsE]
        · obtain ⟨q, hq⟩ := torn_frame hx ht8 h3
          refine ⟨0, by simp, ?_⟩
          rw [lgF_stop hq]
          rfl
      · obtain ⟨i, hi, he⟩ := ih (fun y hy => h y (by simp [hy])) (e + (frE x).length) (c - (frE x).length) (by omega)
        refine ⟨i + 1, by simpa using hi, ?_⟩
        have hne : (bysE r).take (c - (frE x).length) ≠ [] := by
          intro e2
          have := congrArg List.length e2
          rw [List.length_take, List.length_nil] at this
          omega
        simp only [bysE]
        rw [List.take_append, List.take_of_length_le (by omega), tear_append t hne, lgF_frame hx, he]
        simp [endsE]

theorem celN_append (xs ys : List Ent) : celN (xs ++ ys) = celN xs ++ celN ys := by simp [celN]
theorem celN_one {xs : List Ent} : ∀ u ∈ celN xs, u.oneCell' = true := fun u hu => by
  unfold celN at hu
  obtain ⟨x, _, hx⟩ := List.mem_flatMap.1 hu
  exact oneSix x u hx
/-- A list of entries as what is laid behind another. -/
theorem srcN {w : World} {F : Nat → Prop} {a : Option Addr} {c : Nat} {xs : List Ent} (h : Ets w F a xs) (hnil : a = none → xs.length = 0 ∧ c = 0) : Src Tryz.prog 6 38 (.slice a xs.length c) xs.length (celN xs) w := by
  cases a with
  | none =>
    obtain ⟨h1, h2⟩ := hnil rfl
    have hxs : xs = [] := List.eq_nil_of_length_eq_zero h1
    subst hxs
    exact Src.ofNil w Tryz.underlying38 c
  | some ad =>
    refine Src.ofSlice w Tryz.underlying38 ad xs.length c _ (celN_len xs) (fun j u hu => ?_) celN_one
    have hj : j < xs.length * 6 := by rw [← celN_len]; exact (List.getElem?_eq_some_iff.1 hu).1
    rcases h.row with h0 | ⟨b, o, e, hl, _, hr⟩
    · omega
    · cases e
      have hi : j / 6 < xs.length := by omega
      obtain ⟨x, hx⟩ : ∃ x, xs[j / 6]? = some x := ⟨_, List.getElem?_eq_getElem hi⟩
      have h6 := hr _ x hx
      have hc := celN_at xs (j / 6) x (j % 6) hx (by omega)
      rw [show j / 6 * 6 + j % 6 = j by omega, hu] at hc
      rw [Addr.add_lit, show o + j = o + j / 6 * 6 + j % 6 by omega]
      have hlt : j % 6 < 6 := by omega
      match hq : j % 6, hlt with
      | 0, _ => rw [hq] at hc; rw [hc]; exact h6.c0
      | 1, _ => rw [hq] at hc; rw [hc]; exact h6.c1
      | 2, _ => rw [hq] at hc; rw [hc]; exact h6.c2
      | 3, _ => rw [hq] at hc; rw [hc]; exact h6.c3
      | 4, _ => rw [hq] at hc; rw [hc]; exact h6.c4
      | 5, _ => rw [hq] at hc; rw [hc]; exact h6.c5
theorem ownS_ets {W : World} {N : Nat} {v : Value} {ts : List Ent} {F : Nat → Prop} (h : OwnS W N 77 6 v ts.length (celN ts)) (hF : ∀ b, F b → b < N) (he : ∀ t ∈ ts, PcOk W t.val ∧ (t.val.p.length = 0 ∨ farA F t.val.a)) : ∃ a c, v = .slice a ts.length c ∧ Ets W F a ts ∧ ts.length ≤ c := by
  rcases h.2 with ⟨rfl, h0⟩ | ⟨g, o, cap, cur, rfl, hb, hh, hn, _, _, hat⟩
  · exact ⟨none, 0, by rw [h0], ⟨.inl h0, he⟩, by omega⟩
  · refine ⟨_, cap, rfl, ⟨.inr ⟨g, o, rfl, (Array.getElem?_eq_some_iff.1 hh).1, fun hx => by have := hF _ hx; omega, fun i x hi => ?_⟩, he⟩, hn⟩
    have hcl := celN_len ts
    have hil : i < ts.length := (List.getElem?_eq_some_iff.1 hi).1
    have key : ∀ j, j < 6 → W.cell? ⟨g, o + i * 6 + j, none⟩ = (sixL x)[j]? := fun j hj => by
      rw [cell_of_row _ _ _ _ _ _ hh, Nat.add_assoc, hat _ (by omega)]
      exact celN_at ts i x j hi hj
    exact ⟨key 0 (by omega), key 1 (by omega), key 2 (by omega), key 3 (by omega), key 4 (by omega), key 5 (by omega)⟩
/-- Two lists of entries laid one behind the other: a new list. -/
theorem ets_emptyN (w : World) : OwnS (w.alloc (.cells #[] 77)) w.heap.size 77 6 (.slice (some ⟨w.heap.size, 0, none⟩) 0 0) 0 [] := ⟨by simp, .inr ⟨w.heap.size, 0, 0, #[], rfl, Nat.le_refl _, heap_alloc_new w _, by omega, by simp [maxLen], by simp, fun i hi => by simp at hi⟩⟩

/-- What a struck Write or Group leaves. -/
structure Strk (es0 es1 : List En) (t : Nat) (r : Int) (y : Pt) (j : Nat) : Prop where
  ans : r = 0 ∨ r = 80
  le : j ≤ es1.length
  base : y.B = 0
  bs : y.bs = bysE es0 ++ bysE (es1.take j)
  ft : y.ft = t
  kk : y.k = (bysE es0).length ∨ (y.k = y.bs.length ∧ j = es1.length)
theorem strk_write {es0 es1 : List En} (h1 : ∀ x ∈ es1, OkE x) (d k : Int) (t : Nat) : ∃ r y j, wrX true ⟨0, bysE es0, (bysE es0).length, d, k, t, 0⟩ es1 = (r, y) ∧ Strk es0 es1 t r y j := by
  obtain ⟨j, hj, he⟩ := wr_some true h1 ⟨0, bysE es0, (bysE es0).length, d, k, t, 0⟩
  refine ⟨_, _, j, he, ?_, hj, rfl, rfl, rfl, .inl rfl⟩
  split
  · exact .inl rfl
  · exact .inr rfl
theorem strk_group {es0 es1 : List En} (h1 : ∀ x ∈ es1, OkE x) (d k : Int) (t : Nat) : ∃ r y j, grX true ⟨0, bysE es0, (bysE es0).length, d, k, t, 0⟩ es1 = (r, y) ∧ Strk es0 es1 t r y j ∧ (r = 0 → y.k = y.bs.length ∧ j = es1.length) := by
  obtain ⟨j, hj, he⟩ := wr_some true h1 ⟨0, bysE es0, (bysE es0).length, d, k, t, 0⟩
  have hall : es1.all mayE = true := List.all_eq_true.2 fun e he => (h1 e he).1
  unfold grX
  rw [if_pos hall, he]
  by_cases hjl : j = es1.length
  · rw [if_pos hjl, if_pos rfl]
    unfold opS
    split
    · exact ⟨_, _, j, rfl, ⟨.inr rfl, hj, rfl, rfl, rfl, .inl rfl⟩, fun e => by cases e⟩
    · exact ⟨_, _, j, rfl, ⟨.inl rfl, hj, rfl, rfl, rfl, .inr ⟨rfl, hjl⟩⟩, fun _ => ⟨rfl, hjl⟩⟩
  · rw [if_neg hjl, if_neg (by simp)]
    exact ⟨_, _, j, rfl, ⟨.inr rfl, hj, rfl, rfl, rfl, .inl rfl⟩, fun e => by cases e⟩
theorem strk_told {es0 es1 : List En} {t : Nat} {r : Int} {y : Pt} {j : Nat} (h0 : ∀ x ∈ es0, OkE x) (h1 : ∀ x ∈ es1, OkE x) (ht : t < 256) (h : Strk es0 es1 t r y j) :
    ∃ i, i ≤ es1.length ∧ (lgF 0 (strP y).bs).map Prod.fst = es0 ++ es1.take i ∧ (y.k = y.bs.length ∧ j = es1.length → i = es1.length) ∧ (strP y).bs.length ≤ y.bs.length ∧ (strP y).B = 0 := by
  have hkl : y.k ≤ y.bs.length := by
    rcases h.kk with h2 | h2
    · rw [h2, h.bs, List.length_append]; omega
    · omega
  have hk : kpt y ≤ y.bs.length - y.k := Nat.min_le_right _ _
  have hlen : (strP y).bs.length ≤ y.bs.length := by
    show (crashB y.bs y.k (kpt y) y.ft).length ≤ _
    rw [crashB_len _ _ _ _ (by omega)]; omega
  have hj1 : ∀ x ∈ es1.take j, OkE x := fun x hx => h1 x (List.mem_of_mem_take hx)
  have hfull : (lgF 0 y.bs).map Prod.fst = es0 ++ es1.take j := by
    rw [h.bs, ← bysE_append, lgF_all (fun x hx => (List.mem_append.1 hx).elim (h0 x) (hj1 x)), endsE_fst]
  by_cases hkk : y.k = y.bs.length
  · have hk0 : kpt y = 0 := by omega
    have hbs : (strP y).bs = y.bs := by
      show crashB y.bs y.k (kpt y) y.ft = _
      unfold crashB
      rw [if_neg (by omega), List.take_of_length_le (by omega)]
    refine ⟨j, h.le, by rw [hbs]; exact hfull, fun e => e.2, hlen, h.base⟩
  · have hk2 : y.k = (bysE es0).length := by
      rcases h.kk with h2 | h2
      · exact h2
      · exact (hkk h2.1).elim
    have hsp : y.bs.take (y.k + kpt y) = bysE es0 ++ (bysE (es1.take j)).take (kpt y) := by
      rw [h.bs, hk2, List.take_append, List.take_of_length_le (by omega), Nat.add_sub_cancel_left]
    by_cases hc : 0 < kpt y
    · have hl2 : y.bs.length = (bysE es0).length + (bysE (es1.take j)).length := by rw [h.bs, List.length_append]
      have hne : (bysE (es1.take j)).take (kpt y) ≠ [] := by
        intro e2
        have := congrArg List.length e2
        rw [List.length_take, List.length_nil] at this
        omega
      obtain ⟨i, hi, he⟩ := torn_many ht hj1 (0 + (bysE es0).length) (kpt y) (by omega)
      rw [List.length_take] at hi
      refine ⟨i, by omega, ?_, fun e => (hkk e.1).elim, hlen, h.base⟩
      show (lgF 0 (crashB y.bs y.k (kpt y) y.ft)).map Prod.fst = _
      unfold crashB
      rw [if_pos hc, hsp, h.ft, tear_append t hne, lgF_many h0, he, List.map_append, endsE_fst, endsE_fst, List.take_take, Nat.min_eq_left (by omega)]
    · refine ⟨0, Nat.zero_le _, ?_, fun e => (hkk e.1).elim, hlen, h.base⟩
      show (lgF 0 (crashB y.bs y.k (kpt y) y.ft)).map Prod.fst = _
      unfold crashB
      rw [if_neg hc, hsp, show kpt y = 0 by omega, List.take_zero, List.append_nil, lgF_all h0, endsE_fst, List.take_zero, List.append_nil]
end Go.Proofs.YtkacfpmninmjkaaGreat
