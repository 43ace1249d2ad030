/- Bytes read as items, as plain mathematics: what is written is read, and nothing else is. -/
import Derived.Test.YtelcfmjhbjnkoaaOm1
namespace Go.Proofs.Ytelcfmjhbjnkoaa

/-- Eight bytes off a row. -/
def takeW (l : List Nat) : Option (Nat × List Nat) := if l.length < 8 then none else some (beVal (l.take 8), l.drop 8)
/-- A clean number off a row. -/
def takeN (l : List Nat) : Option (Nat × List Nat) :=
  match takeW l with
  | none => none
  | some (v, t) => if rise (unr v) = v then some (unr v, t) else none
/-- A text off a row. -/
def takeT : List Nat → Option (List Nat × List Nat)
  | [] => none
  | z :: l => if z = 0 then
      match l with
      | [] => none
      | y :: m => if y = 1 then some ([], m) else if y = 255 then (takeT m).map fun p => (0 :: p.1, p.2) else none
    else (takeT l).map fun p => (z :: p.1, p.2)
/-- An item with nothing but its kind. -/
def it0 (k : Int) : It := ⟨k, false, 0, 0, 0, 0, ByteArray.empty⟩
/-- What stands behind a kind. -/
def takeB (k : Nat) (l : List Nat) : Option (It × List Nat) :=
  if k = 1 then some (it0 1, l)
  else if k = 2 then
    match l with
    | [] => none
    | z :: m => if z ≤ 1 then some ({ it0 2 with b := decide (z = 1) }, m) else none
  else if k = 3 then (takeW l).map fun p => ({ it0 3 with n := (p.1 : Int) - 9223372036854775808 }, p.2)
  else if k = 4 then (takeN l).map fun p => ({ it0 4 with f := p.1 }, p.2)
  else if k = 5 then
    match takeN l with
    | none => none
    | some (u, m) => (takeN m).map fun p => ({ it0 5 with r := u, i := p.1 }, p.2)
  else if k = 6 then (takeT l).map fun p => ({ it0 6 with t := strOf p.1 }, p.2)
  else none
/-- An item off a row. -/
def takeI : List Nat → Option (It × List Nat)
  | [] => none
  | k :: l => takeB k l
/-- At most so many items, and nothing behind them. -/
def decF : Nat → List Nat → Option (List It)
  | _, [] => some []
  | 0, _ :: _ => none
  | m + 1, z :: l => match takeI (z :: l) with
    | none => none
    | some (x, t) => (decF m t).map fun xs => x :: xs

theorem takeW_back {v : Nat} (hv : v < 18446744073709551616) (s : List Nat) : takeW (beP 8 v 8 ++ s) = some (v, s) := by
  have hl : (beP 8 v 8).length = 8 := beP_len _ _ _
  unfold takeW
  rw [if_neg (by simp [hl]), List.take_left' hl, List.drop_left' hl, be_whole hv]
theorem takeN_back {a : Nat} (ha : a < 18446744073709551616) (s : List Nat) : takeN (beP 8 (rise a) 8 ++ s) = some (cb a, s) := by
  unfold takeN
  rw [takeW_back (rise_lt ha)]
  simp only
  rw [unr_rise ha, rise_cb, if_pos rfl]
theorem takeT_nz {z : Nat} (h : z ≠ 0) (l : List Nat) : takeT (z :: l) = (takeT l).map fun p => (z :: p.1, p.2) := by
  rw [takeT.eq_def]; simp only; rw [if_neg h]
theorem takeT_z (y : Nat) (m : List Nat) : takeT (0 :: y :: m) = if y = 1 then some ([], m) else if y = 255 then (takeT m).map fun p => (0 :: p.1, p.2) else none := by
  rw [takeT.eq_def]; simp only; rw [if_pos trivial]
theorem takeT_back : ∀ (l s : List Nat), takeT (esc l ++ [0, 1] ++ s) = some (l, s)
  | [], s => by simp [esc, takeT]
  | z :: l, s => by
    have ih := takeT_back l s
    rw [esc_cons]
    by_cases h : z = 0
    · subst h
      rw [if_pos rfl]
      simp only [List.cons_append, List.nil_append] at ih ⊢
      rw [takeT_z, if_neg (by decide), if_pos rfl]
      simp only [List.append_assoc, List.cons_append, List.nil_append] at ih ⊢
      rw [ih]; rfl
    · rw [if_neg h]
      simp only [List.append_assoc, List.cons_append, List.nil_append] at ih ⊢
      rw [takeT_nz h, ih]; rfl

theorem strOf_strNat (s : ByteArray) : strOf (strNat s) = s := by
  apply ByteArray.ext
  apply Array.toList_inj.1
  rw [strOf_data]
  unfold strNat
  rw [List.map_map]
  have : ∀ z ∈ s.data.toList, (UInt8.ofNat ∘ UInt8.toNat) z = z := fun z _ => by simp
  rw [List.map_congr_left this]; simp
theorem size_zero {s : ByteArray} (h : s.size = 0) : s = ByteArray.empty := by
  apply ByteArray.ext
  apply Array.eq_empty_of_size_eq_zero
  exact h
theorem cb_nought {a : Nat} (h : nought a = true) : cb a = 0 := by
  have h2 : rng a = 0 := by simpa [nought] using h
  have h1 : nanB a = false := by simp [nanB, h2]
  unfold cb
  rw [h1, h]; rfl

theorem may_out {x : It} (h : may x = true) : (x.k = 2 ∨ x.b = false) ∧ (x.k = 3 ∨ x.n = 0) ∧ (x.k = 4 ∨ cb x.f = 0) ∧ (x.k = 5 ∨ (cb x.r = 0 ∧ cb x.i = 0)) ∧ (x.k = 6 ∨ x.t = ByteArray.empty) := by
  unfold may at h
  simp only [Bool.and_eq_true, Bool.or_eq_true, decide_eq_true_eq, Bool.not_eq_true'] at h
  obtain ⟨⟨⟨⟨⟨_, h2⟩, h3⟩, h4⟩, h5⟩, h6⟩ := h
  exact ⟨h2, h3, h4.imp_right cb_nought, h5.imp_right fun h => ⟨cb_nought h.1, cb_nought h.2⟩, h6.imp_right size_zero⟩

theorem It.ext {x y : It} (h1 : x.k = y.k) (h2 : x.b = y.b) (h3 : x.n = y.n) (h4 : x.f = y.f) (h5 : x.r = y.r) (h6 : x.i = y.i) (h7 : x.t = y.t) : x = y := by
  cases x; cases y; simp_all

/-- What is written is read, clean. -/
theorem takeI_back {x : It} (hx : ItOk x) (mx : may x = true) (s : List Nat) : takeI (encI x ++ s) = some (clean x, s) := by
  have hk := may_kind mx
  obtain ⟨o2, o3, o4, o5, o6⟩ := may_out mx
  unfold encI
  rw [List.cons_append, takeI]
  unfold takeB body
  by_cases h1 : x.k = 1
  · rw [if_pos (by omega)]
    rw [if_neg (by omega), if_neg (by omega), if_neg (by omega), if_neg (by omega), if_neg (by omega)]
    rw [List.nil_append]
    congr 2
    refine It.ext ?_ ?_ ?_ ?_ ?_ ?_ ?_ <;> simp only [it0, clean] <;> first | omega | (rcases o2 with h | h; omega; exact h.symm) | skip
    all_goals first | (rcases o4 with h | h; omega; exact h.symm) | (rcases o5 with h | h; omega; first | exact h.1.symm | exact h.2.symm) | (rcases o6 with h | h; omega; exact h.symm)
  · rw [if_neg (show ¬ x.k.toNat = 1 by omega)]
    by_cases h2 : x.k = 2
    · rw [if_pos (show x.k.toNat = 2 by omega), if_pos h2, List.singleton_append]
      simp only
      rw [if_pos (by cases x.b <;> decide)]
      congr 2
      refine It.ext ?_ ?_ ?_ ?_ ?_ ?_ ?_ <;> simp only [it0, clean] <;> first | omega | (cases x.b <;> rfl) | skip
      all_goals first | (rcases o4 with h | h; omega; exact h.symm) | (rcases o5 with h | h; omega; first | exact h.1.symm | exact h.2.symm) | (rcases o6 with h | h; omega; exact h.symm)
    · rw [if_neg (show ¬ x.k.toNat = 2 by omega), if_neg h2]
      by_cases h3 : x.k = 3
      · have := hx.n1; have := hx.n2
        rw [if_pos (show x.k.toNat = 3 by omega), if_pos h3, takeW_back (by omega)]
        simp only [Option.map_some]
        congr 2
        refine It.ext ?_ ?_ ?_ ?_ ?_ ?_ ?_ <;> simp only [it0, clean] <;> first | omega | (rcases o2 with h | h; omega; exact h.symm) | skip
        all_goals first | (rcases o4 with h | h; omega; exact h.symm) | (rcases o5 with h | h; omega; first | exact h.1.symm | exact h.2.symm) | (rcases o6 with h | h; omega; exact h.symm)
      · rw [if_neg (show ¬ x.k.toNat = 3 by omega), if_neg h3]
        by_cases h4 : x.k = 4
        · rw [if_pos (show x.k.toNat = 4 by omega), if_pos h4, takeN_back hx.f]
          simp only [Option.map_some]
          congr 2
          refine It.ext ?_ ?_ ?_ ?_ ?_ ?_ ?_ <;> simp only [it0, clean] <;> first | omega | (rcases o2 with h | h; omega; exact h.symm) | rfl | skip
          all_goals first | (rcases o5 with h | h; omega; first | exact h.1.symm | exact h.2.symm) | (rcases o6 with h | h; omega; exact h.symm)
        · rw [if_neg (show ¬ x.k.toNat = 4 by omega), if_neg h4]
          by_cases h5 : x.k = 5
          · rw [if_pos (show x.k.toNat = 5 by omega), if_pos h5, List.append_assoc, takeN_back hx.r]
            simp only
            rw [takeN_back hx.i]
            simp only [Option.map_some]
            congr 2
            refine It.ext ?_ ?_ ?_ ?_ ?_ ?_ ?_ <;> simp only [it0, clean] <;> first | omega | (rcases o2 with h | h; omega; exact h.symm) | rfl | skip
            all_goals first | (rcases o4 with h | h; omega; exact h.symm) | (rcases o6 with h | h; omega; exact h.symm)
          · rw [if_neg (show ¬ x.k.toNat = 5 by omega), if_neg h5, if_pos (show x.k.toNat = 6 by omega), if_pos (show x.k = 6 by omega), takeT_back]
            simp only [Option.map_some]
            congr 2
            refine It.ext ?_ ?_ ?_ ?_ ?_ ?_ ?_ <;> simp only [it0, clean] <;> first | omega | (rcases o2 with h | h; omega; exact h.symm) | exact strOf_strNat _ | skip
            all_goals first | (rcases o4 with h | h; omega; exact h.symm) | (rcases o5 with h | h; omega; first | exact h.1.symm | exact h.2.symm)

theorem takeW_form {l : List Nat} {v : Nat} {t : List Nat} (h8 : All8 l) (h : takeW l = some (v, t)) : l = beP 8 v 8 ++ t ∧ v < 18446744073709551616 ∧ All8 t := by
  unfold takeW at h
  by_cases hl : l.length < 8
  · rw [if_pos hl] at h; cases h
  · rw [if_neg hl] at h
    cases h
    have e : (l.take 8).length = 8 := by simp; omega
    have hf := be_form (h8.take 8)
    rw [e] at hf
    have hb := beVal_bound (h8.take 8)
    rw [e] at hb
    exact ⟨by rw [hf, List.take_append_drop], hb, h8.drop 8⟩
theorem takeN_form {l : List Nat} {u : Nat} {t : List Nat} (h8 : All8 l) (h : takeN l = some (u, t)) : l = beP 8 (rise u) 8 ++ t ∧ u < 18446744073709551616 ∧ cb u = u ∧ All8 t := by
  unfold takeN at h
  cases hw : takeW l with
  | none => rw [hw] at h; cases h
  | some p =>
    obtain ⟨v, s⟩ := p
    rw [hw] at h
    simp only at h
    obtain ⟨h1, h2, h3⟩ := takeW_form h8 hw
    by_cases hr : rise (unr v) = v
    · rw [if_pos hr] at h
      cases h
      exact ⟨by rw [hr]; exact h1, unr_lt h2, cb_of_rise h2 hr, h3⟩
    · rw [if_neg hr] at h; cases h
theorem takeT_form : ∀ {l p t : List Nat}, All8 l → takeT l = some (p, t) → l = esc p ++ [0, 1] ++ t ∧ All8 p ∧ All8 t
  | [], _, _, _, h => by simp [takeT] at h
  | z :: l, p, t, h8, h => by
    have hz : z < 256 := h8 z List.mem_cons_self
    have hl : All8 l := fun x hx => h8 x (List.mem_cons_of_mem _ hx)
    by_cases h0 : z = 0
    · subst h0
      match l, hl, h with
      | [], _, h => simp [takeT] at h
      | y :: m, hl, h =>
        rw [takeT_z] at h
        have hm : All8 m := fun x hx => hl x (List.mem_cons_of_mem _ hx)
        by_cases h1 : y = 1
        · rw [if_pos h1] at h
          cases h
          subst h1
          exact ⟨by simp [esc], fun x hx => (by cases hx), hm⟩
        · rw [if_neg h1] at h
          by_cases h2 : y = 255
          · rw [if_pos h2] at h
            subst h2
            cases hr : takeT m with
            | none => rw [hr] at h; cases h
            | some q =>
              rw [hr] at h
              obtain ⟨q1, q2⟩ := q
              cases h
              obtain ⟨i1, i2, i3⟩ := takeT_form hm hr
              refine ⟨by rw [esc_cons, if_pos rfl, i1]; simp, fun x hx => ?_, i3⟩
              rcases List.mem_cons.1 hx with rfl | hx
              · omega
              · exact i2 x hx
          · rw [if_neg h2] at h; cases h
    · rw [takeT_nz h0] at h
      cases hr : takeT l with
      | none => rw [hr] at h; cases h
      | some q =>
        rw [hr] at h
        obtain ⟨q1, q2⟩ := q
        cases h
        obtain ⟨i1, i2, i3⟩ := takeT_form hl hr
        refine ⟨by rw [esc_cons, if_neg h0]; simp only [List.cons_append, List.nil_append]; rw [← i1], fun x hx => ?_, i3⟩
        rcases List.mem_cons.1 hx with rfl | hx
        · omega
        · exact i2 x hx

theorem nought_zero : nought 0 = true := by decide
theorem cb_zero : cb 0 = 0 := by decide

/-- What is read was written so: the item may be, and is clean. -/
theorem takeI_form {l : List Nat} {x : It} {t : List Nat} (h8 : All8 l) (h : takeI l = some (x, t)) : l = encI x ++ t ∧ may x = true ∧ clean x = x ∧ ItOk x ∧ All8 t ∧ t.length < l.length := by
  have len : ∀ {l : List Nat} {x : It} {t : List Nat}, l = encI x ++ t → t.length < l.length := fun e => by rw [e]; simp [encI]; omega
  match l, h8, h with
  | k :: l, h8, h =>
    have hl : All8 l := fun x hx => h8 x (List.mem_cons_of_mem _ hx)
    rw [takeI] at h
    unfold takeB at h
    by_cases h1 : k = 1
    · subst h1
      rw [if_pos rfl] at h
      cases h
      exact ⟨rfl, by decide, by rw [clean]; simp [it0, cb_zero], ⟨by decide, by decide, by decide, by decide, by decide, by decide, by decide⟩, hl, by simp⟩
    · rw [if_neg h1] at h
      by_cases h2 : k = 2
      · subst h2
        rw [if_pos rfl] at h
        match l, hl, h with
        | z :: m, hl, h =>
          simp only at h
          by_cases hz : z ≤ 1
          · rw [if_pos hz] at h
            cases h
            have hm : All8 t := fun x hx => hl x (List.mem_cons_of_mem _ hx)
            have e : 2 :: z :: t = encI { it0 2 with b := decide (z = 1) } ++ t := by
              simp only [encI, body, it0]
              rw [if_pos trivial]
              have : z = (decide (z = 1)).toNat := by
                by_cases e : z = 1
                · simp [e]
                · have : z = 0 := by omega
                  simp [this]
              simp only [List.cons_append, List.nil_append]
              rw [← this]
              rfl
            refine ⟨e, ?_, by rw [clean]; simp [it0, cb_zero], ⟨by simp [it0], by simp [it0], by simp [it0], by simp [it0], by simp [it0], by simp [it0], by simp [it0]⟩, hm, len e⟩
            simp [may, it0, nought_zero]
          · rw [if_neg hz] at h; cases h
      · rw [if_neg h2] at h
        by_cases h3 : k = 3
        · subst h3
          rw [if_pos rfl] at h
          cases hw : takeW l with
          | none => rw [hw] at h; cases h
          | some p =>
            obtain ⟨v, s⟩ := p
            rw [hw] at h
            cases h
            obtain ⟨e1, e2, e3⟩ := takeW_form hl hw
            have e : 3 :: l = encI { it0 3 with n := (v : Int) - 9223372036854775808 } ++ s := by
              simp only [encI, body, it0]
              rw [if_neg (by decide), if_pos trivial, e1]
              have : ((v : Int) - 9223372036854775808 + 9223372036854775808).toNat = v := by omega
              rw [this]
              rfl
            refine ⟨e, ?_, by rw [clean]; simp [it0, cb_zero], ⟨by simp [it0], by simp [it0], show -9223372036854775808 ≤ (v : Int) - 9223372036854775808 by omega, show (v : Int) - 9223372036854775808 ≤ 9223372036854775807 by omega, by simp [it0], by simp [it0], by simp [it0]⟩, e3, len e⟩
            simp [may, it0, nought_zero]
        · rw [if_neg h3] at h
          by_cases h4 : k = 4
          · subst h4
            rw [if_pos rfl] at h
            cases hw : takeN l with
            | none => rw [hw] at h; cases h
            | some p =>
              obtain ⟨v, s⟩ := p
              rw [hw] at h
              cases h
              obtain ⟨e1, e2, e3, e4⟩ := takeN_form hl hw
              have e : 4 :: l = encI { it0 4 with f := v } ++ s := by
                simp only [encI, body, it0]
                rw [if_neg (by decide), if_neg (by decide), if_pos trivial, e1]
                rfl
              refine ⟨e, ?_, by rw [clean]; simp [it0, cb_zero, e3], ⟨by simp [it0], by simp [it0], by simp [it0], by simp [it0], by simpa [it0] using e2, by simp [it0], by simp [it0]⟩, e4, len e⟩
              simp [may, it0, nought_zero]
          · rw [if_neg h4] at h
            by_cases h5 : k = 5
            · subst h5
              rw [if_pos rfl] at h
              cases hw : takeN l with
              | none => rw [hw] at h; cases h
              | some p =>
                obtain ⟨v, s⟩ := p
                rw [hw] at h
                simp only at h
                obtain ⟨e1, e2, e3, e4⟩ := takeN_form hl hw
                cases hw' : takeN s with
                | none => rw [hw'] at h; cases h
                | some p =>
                  obtain ⟨v', s'⟩ := p
                  rw [hw'] at h
                  cases h
                  obtain ⟨e1', e2', e3', e4'⟩ := takeN_form e4 hw'
                  have e : 5 :: l = encI { it0 5 with r := v, i := v' } ++ s' := by
                    simp only [encI, body, it0]
                    rw [if_neg (by decide), if_neg (by decide), if_neg (by decide), if_pos trivial, e1, e1']
                    simp
                  refine ⟨e, ?_, by rw [clean]; simp [it0, cb_zero, e3, e3'], ⟨by simp [it0], by simp [it0], by simp [it0], by simp [it0], by simp [it0], by simpa [it0] using e2, by simpa [it0] using e2'⟩, e4', len e⟩
                  simp [may, it0, nought_zero]
            · rw [if_neg h5] at h
              by_cases h6 : k = 6
              · subst h6
                rw [if_pos rfl] at h
                cases hw : takeT l with
                | none => rw [hw] at h; cases h
                | some p =>
                  obtain ⟨p, s⟩ := p
                  rw [hw] at h
                  cases h
                  obtain ⟨e1, e2, e3⟩ := takeT_form hl hw
                  have e : 6 :: l = encI { it0 6 with t := strOf p } ++ s := by
                    simp only [encI, body, it0]
                    rw [if_neg (by decide), if_neg (by decide), if_neg (by decide), if_neg (by decide), if_pos trivial, strNat_strOf e2, e1]
                    simp
                  refine ⟨e, ?_, by rw [clean]; simp [it0, cb_zero], ⟨by simp [it0], by simp [it0], by simp [it0], by simp [it0], by simp [it0], by simp [it0], by simp [it0]⟩, e3, len e⟩
                  simp [may, it0, nought_zero]
              · rw [if_neg h6] at h; cases h

theorem may_clean {x : It} (h : may x = true) : may (clean x) = true := by
  have hn : ∀ a, nought a = true → nought (cb a) = true := fun a ha => by rw [cb_nought ha]; decide
  obtain ⟨k, b, n, f, r, i, t⟩ := x
  show may ⟨k, b, n, cb f, cb r, cb i, t⟩ = true
  unfold may at h ⊢
  simp only [Bool.and_eq_true, Bool.or_eq_true, decide_eq_true_eq, Bool.not_eq_true'] at h ⊢
  obtain ⟨⟨⟨⟨⟨h1, h2⟩, h3⟩, h4⟩, h5⟩, h6⟩ := h
  exact ⟨⟨⟨⟨⟨h1, h2⟩, h3⟩, h4.imp_right (hn _)⟩, h5.imp_right fun h => ⟨hn _ h.1, hn _ h.2⟩⟩, h6⟩

/-- Bytes of a list and its clean items' bytes are the same. -/
theorem encI_clean (x : It) : encI (clean x) = encI x := by
  unfold encI body clean
  simp only [rise_cb]

theorem encI_pos (x : It) : 0 < (encI x).length := by simp [encI]

/-- What is written is read. -/
theorem decF_back : ∀ (m : Nat) (xs : List It), xs.length ≤ m → (∀ x ∈ xs, ItOk x ∧ may x = true) → decF m (encAll xs) = some (xs.map clean)
  | m, [], _, _ => by cases m <;> rfl
  | 0, x :: xs, h, _ => by simp at h
  | m + 1, x :: xs, h, ho => by
    have hx := ho x List.mem_cons_self
    have ih := decF_back m xs (by simpa using h) (fun z hz => ho z (List.mem_cons_of_mem _ hz))
    rw [encAll_cons]
    have e : ∃ z l, encI x ++ encAll xs = z :: l := ⟨_, _, by unfold encI; rw [List.cons_append]⟩
    obtain ⟨z, l, e⟩ := e
    have ht := takeI_back hx.1 hx.2 (encAll xs)
    rw [e] at ht ⊢
    rw [decF, ht]
    simp only
    rw [ih]; rfl

/-- What is read was written. -/
theorem decF_form : ∀ (m : Nat) (l : List Nat) (xs : List It), All8 l → decF m l = some xs → l = encAll xs ∧ xs.length ≤ m ∧ ∀ x ∈ xs, ItOk x ∧ may x = true ∧ clean x = x
  | m, [], xs, _, h => by
    have : xs = [] := by cases m <;> simp [decF] at h <;> exact h
    subst this
    exact ⟨rfl, by simp, fun x hx => by cases hx⟩
  | 0, _ :: _, xs, _, h => by simp [decF] at h
  | m + 1, z :: l, xs, h8, h => by
    rw [decF] at h
    cases ht : takeI (z :: l) with
    | none => rw [ht] at h; cases h
    | some p =>
      obtain ⟨x, t⟩ := p
      rw [ht] at h
      simp only at h
      obtain ⟨e1, e2, e3, e4, e5, _⟩ := takeI_form h8 ht
      cases hd : decF m t with
      | none => rw [hd] at h; cases h
      | some ys =>
        rw [hd] at h
        cases h
        obtain ⟨i1, i2, i3⟩ := decF_form m t ys e5 hd
        refine ⟨by rw [encAll_cons, ← i1]; exact e1, by simp; exact i2, fun y hy => ?_⟩
        rcases List.mem_cons.1 hy with rfl | hy
        · exact ⟨e4, e2, e3⟩
        · exact i3 y hy

/-- Items' bytes end where they end. -/
theorem encI_inj {x y : It} (hx : ItOk x) (hy : ItOk y) (mx : may x = true) (my : may y = true) {s t : List Nat} (h : encI x ++ s = encI y ++ t) : encI x = encI y ∧ s = t := by
  have h1 := takeI_back hx mx s
  rw [h, takeI_back hy my t] at h1
  obtain ⟨e1, e2⟩ := Prod.mk.inj (Option.some.inj h1)
  exact ⟨by rw [← encI_clean x, ← e1, encI_clean], e2.symm⟩

/-- A list's bytes begin with another's just if its first items are like these. -/
theorem begins_iff : ∀ (a b : List It), (∀ x ∈ a, ItOk x ∧ may x = true) → (∀ x ∈ b, ItOk x ∧ may x = true) →
    ((∃ s, encAll a = encAll b ++ s) ↔ b.length ≤ a.length ∧ ∀ i (h1 : i < a.length) (h2 : i < b.length), cmpIt a[i] b[i] = 0)
  | a, [], _, _ => by
    simp [encAll]
  | [], y :: b, _, _ => by
    constructor
    · rintro ⟨s, e⟩
      rw [encAll_cons] at e
      have := congrArg List.length e
      have := encI_pos y
      simp [encAll] at *
      omega
    · rintro ⟨h, _⟩; simp at h
  | x :: a, y :: b, ha, hb => by
    have hx := ha x List.mem_cons_self
    have hy := hb y List.mem_cons_self
    have ih := begins_iff a b (fun z hz => ha z (List.mem_cons_of_mem _ hz)) (fun z hz => hb z (List.mem_cons_of_mem _ hz))
    have hc : cmpIt x y = 0 ↔ encI x = encI y := by
      rw [cmpIt_lexc hx.1 hy.1 hx.2 hy.2]
      exact ⟨lexc_eq, fun e => by rw [e, lexc_self]⟩
    rw [encAll_cons, encAll_cons]
    constructor
    · rintro ⟨s, e⟩
      rw [List.append_assoc] at e
      obtain ⟨e1, e2⟩ := encI_inj hx.1 hy.1 hx.2 hy.2 e
      obtain ⟨i1, i2⟩ := ih.1 ⟨s, e2⟩
      refine ⟨by simpa using i1, fun i h1 h2 => ?_⟩
      cases i with
      | zero => exact hc.2 e1
      | succ i => exact i2 i (by simpa using h1) (by simpa using h2)
    · rintro ⟨h1, h2⟩
      have h0 := hc.1 (h2 0 (by simp) (by simp))
      obtain ⟨s, e⟩ := ih.2 ⟨by simpa using h1, fun i g1 g2 => h2 (i + 1) (by simpa using g1) (by simpa using g2)⟩
      exact ⟨s, by rw [h0, e, List.append_assoc]⟩

end Go.Proofs.Ytelcfmjhbjnkoaa
