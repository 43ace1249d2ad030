/- The document's numbers off bytes. -/
import Derived.Test.YtlhlpofmeeiffabEe10
namespace Go.Proofs.Ytlhlpofmeeiffab
open Go.RowKit

/-- The place of what is left of bytes; -1: nothing is read. -/
def curs (bs : List Nat) : Option (List Nat) → Int
  | none => -1
  | some t => (bs.length : Int) - (t.length : Int)
/-- What reading a number, or bytes behind their number, gives and leaves. -/
def numO (most : Int) : Option (List Nat) → Int × Option (List Nat)
  | none => (0, none)
  | some t => match takeShort 0 most t with | .ok (n, u) => (n, some u) | .error _ => (0, none)
def rowO (most : Int) : Option (List Nat) → List Nat × Option (List Nat)
  | none => ([], none)
  | some t => match takeCounted most t with | .ok (p, u) => (p, some u) | .error _ => ([], none)
/-- What is left is an end of the bytes. -/
def EndO (bs : List Nat) (o : Option (List Nat)) : Prop := ∀ t, o = some t → ∃ j, j ≤ bs.length ∧ t = bs.drop j

theorem drop_at {l : List Nat} {k : Nat} (h : k < l.length) : l.drop k = at0 l k :: l.drop (k + 1) := by
  rw [List.drop_eq_getElem_cons h, at0_get h]

theorem numO_bad {m : Nat} {t : List Nat} {c : Nat} (h : groupsFrom 0 0 t = .error c) : numO (m : Int) (some t) = (0, none) := by
  unfold numO takeShort
  simp only []
  rw [if_neg (by omega), h]
theorem numO_odd {m f : Nat} {t u : List Nat} (h : groupsFrom 0 0 t = .ok (f, u)) (h2 : f % 2 = 1) : numO (m : Int) (some t) = (0, none) := by
  unfold numO takeShort
  simp only []
  rw [if_neg (by omega), h]
  simp only []
  have : unfoldN f < 0 ∨ (m : Int) < unfoldN f := by unfold unfoldN; rw [if_pos h2]; omega
  rw [if_pos this]
theorem numO_most {m f : Nat} {t u : List Nat} (h : groupsFrom 0 0 t = .ok (f, u)) (h3 : m < f / 2) : numO (m : Int) (some t) = (0, none) := by
  by_cases h2 : f % 2 = 1
  · exact numO_odd h h2
  · unfold numO takeShort
    simp only []
    rw [if_neg (by omega), h]
    simp only []
    have : unfoldN f < 0 ∨ (m : Int) < unfoldN f := by unfold unfoldN; rw [if_neg h2]; omega
    rw [if_pos this]
theorem numO_ok {m f : Nat} {t u : List Nat} (h : groupsFrom 0 0 t = .ok (f, u)) (h2 : ¬ f % 2 = 1) (h3 : ¬ m < f / 2) : numO (m : Int) (some t) = (((f / 2 : Nat) : Int), some u) := by
  unfold numO takeShort
  simp only []
  rw [if_neg (by omega), h]
  simp only []
  have e : unfoldN f = ((f / 2 : Nat) : Int) := by unfold unfoldN; rw [if_neg h2]
  rw [e, if_neg (by omega)]

theorem EndO.num {bs : List Nat} (h8 : All8 bs) {o : Option (List Nat)} (h : EndO bs o) (m : Int) : EndO bs (numO m o).2 := by
  cases o with
  | none => intro t e; cases e
  | some t =>
    obtain ⟨j, hj, rfl⟩ := h t rfl
    unfold numO
    simp only []
    cases e : takeShort 0 m (bs.drop j) with
    | error c => intro t e; cases e
    | ok r =>
      obtain ⟨n, u⟩ := r
      intro t e2
      cases e2
      have hf := short_form (h8.drop j) e
      refine ⟨j + (shortL (foldI n)).length, ?_, ?_⟩
      · have := congrArg List.length hf; simp at this; omega
      · rw [← List.drop_drop, hf]; simp
theorem EndO.row {bs : List Nat} (h8 : All8 bs) {o : Option (List Nat)} (h : EndO bs o) (m : Int) : EndO bs (rowO m o).2 := by
  cases o with
  | none => intro t e; cases e
  | some t =>
    obtain ⟨j, hj, rfl⟩ := h t rfl
    unfold rowO
    simp only []
    cases e : takeCounted m (bs.drop j) with
    | error c => intro t e; cases e
    | ok r =>
      obtain ⟨p, u⟩ := r
      intro t e2
      cases e2
      have hf := counted_form (h8.drop j) e
      refine ⟨j + (shortL (2 * p.length) ++ p).length, ?_, ?_⟩
      · have := congrArg List.length hf; simp at this ⊢; omega
      · rw [← List.drop_drop, hf]; simp

set_option maxRecDepth 100000 in
set_option maxHeartbeats 400000 in
theorem rnumber_none (a : Option Addr) (cap m : Nat) (bs : List Nat) (w : World) :
    Calls Try.prog 41 #[.slice a bs.length cap, .int .i64 (-1), .int .i64 (m : Int)] w fun e w' => e = .returned (.tuple #[.int .i64 0, .int .i64 (-1)]) ∧ w' = w := by
  go_enter Try.func41, Try.ntmps41
  go_wp2
  go_ret2
  exact ⟨rfl, rfl⟩

/-- What number answers of a place. -/
def NumTo (bs : List Nat) (m j : Nat) (w : World) (e : Ending) (w' : World) : Prop :=
  e = .returned (.tuple #[.int .i64 (numO (m : Int) (some (bs.drop j))).1, .int .i64 (curs bs (numO (m : Int) (some (bs.drop j))).2)]) ∧ w' = w
theorem NumTo.bad {bs : List Nat} {m j : Nat} {w : World} (h : numO (m : Int) (some (bs.drop j)) = (0, none)) : NumTo bs m j w (.returned (.tuple #[.int .i64 0, .int .i64 (-1)])) w := by
  unfold NumTo; rw [h]; exact ⟨rfl, rfl⟩

theorem sum_group {k y x : Nat} (hk : k ≤ 9) (h9 : k = 9 → x ≤ 1) (hy : y < 128 ^ k) :
    IntKind.u64.wrap ((x : Int) % 128 * 2 ^ (7 * k)) = ((x % 128 * 128 ^ k : Nat) : Int) ∧ y + x % 128 * 128 ^ k < 18446744073709551616 := by
  have hm : x % 128 < 128 := Nat.mod_lt _ (by decide)
  have hlt := group_lt hk hm (fun e => by have := h9 e; omega)
  have e1 : (x : Int) % 128 * 2 ^ (7 * k) = ((x % 128 * 128 ^ k : Nat) : Int) := by
    rw [← pow7]; simp
  have e2 : IntKind.u64.wrap ((x % 128 * 128 ^ k : Nat) : Int) = ((x % 128 * 128 ^ k : Nat) : Int) := by
    generalize x % 128 * 128 ^ k = z at *
    simp [IntKind.wrap, IntKind.bits, IntKind.signed]
    omega
  refine ⟨by rw [e1, e2], ?_⟩
  by_cases h : k = 9
  · subst h
    have := h9 rfl
    have h9' : y < 9223372036854775808 := hy
    have : x % 128 * 128 ^ 9 ≤ 1 * 128 ^ 9 := Nat.mul_le_mul_right _ (by omega)
    omega
  · have h1 : 128 ^ k ≤ 128 ^ 8 := Nat.pow_le_pow_right (by decide) (by omega)
    have h2 : x % 128 * 128 ^ k ≤ 127 * 128 ^ 8 := Nat.mul_le_mul (by omega) h1
    omega

set_option maxRecDepth 100000 in
set_option maxHeartbeats 400000 in
theorem rnumber_at (a : Option Addr) (cap m j : Nat) (bs : List Nat) (w : World) (hr : RowB w a bs) (h8 : All8 bs) (hj : j ≤ bs.length) (hl : bs.length ≤ 140737488355328) (hm : m ≤ 4611686018427387904) :
    Calls Try.prog 41 #[.slice a bs.length cap, .int .i64 (j : Int), .int .i64 (m : Int)] w fun e w' => NumTo bs m j w e w' := by
  obtain ⟨Q, hQ⟩ : ∃ Q, Q = NumTo bs m j w := ⟨_, rfl⟩
  have hbad : Hid (numO (m : Int) (some (bs.drop j)) = (0, none) → Q (.returned (.tuple #[.int .i64 0, .int .i64 (-1)])) w) := fun h => by rw [hQ]; exact NumTo.bad h
  have hgood : Hid (∀ f u, numO (m : Int) (some (bs.drop j)) = (((f / 2 : Nat) : Int), some u) → Q (.returned (.tuple #[.int .i64 ((f / 2 : Nat) : Int), .int .i64 (curs bs (some u))])) w) := fun f u h => by rw [hQ]; unfold NumTo; rw [h]; exact ⟨rfl, rfl⟩
  rw [← hQ]
  clear hQ
  obtain ⟨L, hL⟩ : ∃ L, L = bs.length := ⟨_, rfl⟩
  rw [← hL] at hj hl ⊢
  replace hL := hide_it hL
  go_enter Try.func41, Try.ntmps41
  go_wp2_with fail
  go_loopw [8, 9] (fun v i wr => ∃ (k y : Nat), k ≤ 9 ∧ j + k ≤ L ∧ Hid (y < 128 ^ k) ∧ i = .int .i64 (k : Int) ∧ v = .int .u64 (y : Int) ∧ wr = w ∧ Hid (groupsFrom k y (bs.drop (j + k)) = groupsFrom 0 0 (bs.drop j))) (fun _ i _ => 10 - (intOf i).toNat)
  case atStart => exact ⟨0, 0, by omega, by omega, by simp [Hid], rfl, rfl, rfl, rfl⟩
  case round =>
    obtain ⟨k, y, hk, hjk, hy, rfl, rfl, rfl, hgr⟩ := hrel
    have hk10 : decide ((k : Int) < 10) = true := by simp; omega
    by_cases hend : j + k = L
    · have HG : Hid (groupsFrom 0 0 (bs.drop j) = .error 20) := by
        unfold Hid; rw [← hgr.out, List.drop_eq_nil_of_le (by rw [← hL.out]; omega)]; rfl
      have hd : decide ((L : Int) ≤ (j : Int) + (k : Int)) = true := by simp; omega
      clear hgr hr
      go_wp2_with fail
      exact hbad.out (numO_bad HG.out)
    · have hlt : j + k < L := by omega
      have hd : decide ((L : Int) ≤ (j : Int) + (k : Int)) = false := by simp; omega
      have hdr := drop_at (l := bs) (k := j + k) (by rw [← hL.out]; omega)
      rw [hdr] at hgr
      obtain ⟨x, hx⟩ : ∃ x, x = at0 bs (j + k) := ⟨_, rfl⟩
      rw [← hx] at hgr
      have hx8 : x < 256 := by rw [hx]; exact h8.at _
      obtain ⟨b, o, rfl, hck⟩ : ∃ b o, a = some ⟨b, o, none⟩ ∧ wr.cell? ⟨b, o + (j + k), none⟩ = some (.int .u8 (x : Int)) := by
        rcases hr with h | ⟨b, o, h1, _, h3⟩
        · rw [← hL.out] at h; omega
        · exact ⟨b, o, h1, by rw [hx]; exact h3 _ (by rw [← hL.out]; omega)⟩
      clear hr hx hdr hend
      have hmod : (x : Int).tmod 128 = (x : Int) % 128 := Int.tmod_eq_emod_of_nonneg (by omega)
      by_cases c1 : k = 9 ∧ 1 < x
      · have HG : Hid (groupsFrom 0 0 (bs.drop j) = .error 21) := by unfold Hid; rw [← hgr.out, groupsFrom, if_pos c1]
        obtain ⟨hk9, c2⟩ := c1
        have hke : ((k : Int) == 9) = true := by rw [beq_iff_eq]; omega
        have hd1 : decide ((1 : Int) < (x : Int)) = true := by simp; omega
        clear hgr hk9
        go_wp2_with fail
        exact hbad.out (numO_bad HG.out)
      · obtain ⟨hsh, hsum⟩ := sum_group (k := k) (y := y) (x := x) hk (fun e => by omega) hy.out
        obtain ⟨z, hz⟩ : ∃ z, z = x % 128 * 128 ^ k := ⟨_, rfl⟩
        obtain ⟨u, hu⟩ : ∃ u, u = y + z := ⟨_, rfl⟩
        rw [← hz] at hsh hsum
        rw [← hu] at hsum
        have hadd : IntKind.u64.wrap ((y : Int) + (z : Int)) = (u : Int) := by
          simp [IntKind.wrap, IntKind.bits, IntKind.signed]; omega
        have hu' : Hid (u = y + x % 128 * 128 ^ k) := by unfold Hid; rw [hu, hz]
        have hw7 : IntKind.i64.wrap (7 * (k : Int)) = ((7 * k : Nat) : Int) := by simp [IntKind.wrap, IntKind.bits, IntKind.signed]; omega
        have hor : Hid (((k : Int) == 9) = true → decide ((1 : Int) < (x : Int)) = false) := fun h => by
          have : k = 9 := by have := eq_of_beq h; omega
          simp; omega
        clear hz hu
        by_cases c2 : 128 ≤ x
        · have HG : Hid (groupsFrom (k + 1) u (bs.drop (j + (k + 1))) = groupsFrom 0 0 (bs.drop j)) := by
            unfold Hid; rw [← hgr.out, hu'.out]; exact (by rw [groupsFrom, if_neg c1, if_pos c2]; rfl)
          have hk8 : k < 9 := by omega
          have hd2 : decide ((128 : Int) ≤ (x : Int)) = true := by simp; omega
          have hke : ((k : Int) == 9) = false := by simp; omega
          have HN : Hid (u < 128 ^ (k + 1)) := by
            unfold Hid
            rw [hu'.out, Nat.pow_succ]
            have h2 : x % 128 * 128 ^ k ≤ 127 * 128 ^ k := Nat.mul_le_mul_right _ (by omega)
            have := hy.out
            omega
          clear hgr c1 hor hu'
          go_wp2_with fail
          exact ⟨⟨k + 1, u, by omega, by omega, HN, by go_num, rfl, trivial, HG⟩, by simp [intOf]; omega⟩
        · have hd2 : decide ((128 : Int) ≤ (x : Int)) = false := by simp; omega
          by_cases c3 : x = 0 ∧ 0 < k
          · have HG : Hid (groupsFrom 0 0 (bs.drop j) = .error 21) := by unfold Hid; rw [← hgr.out, groupsFrom, if_neg c1, if_neg c2, if_pos c3]
            obtain ⟨hx0, c4⟩ := c3
            have hxe : ((x : Int) == 0) = true := by rw [beq_iff_eq]; omega
            have hd3 : decide ((0 : Int) < (k : Int)) = true := by simp; omega
            have hd1 : decide ((1 : Int) < (x : Int)) = false := by simp; omega
            clear hgr hx0 c1 hor hu'
            cases hke : ((k : Int) == 9)
            all_goals
              go_wp2_with fail
              exact hbad.out (numO_bad HG.out)
          · have HG : Hid (groupsFrom 0 0 (bs.drop j) = .ok (u, bs.drop (j + k + 1))) := by unfold Hid; rw [← hgr.out, groupsFrom, if_neg c1, if_neg c2, if_neg c3, hu'.out]
            have hc3 : Hid (((x : Int) == 0) = true → decide ((0 : Int) < (k : Int)) = false) := fun h => by
              have : x = 0 := by have := eq_of_beq h; omega
              simp; omega
            have hK0 : Hid (((x : Int) == 0) = true → k = 0) := fun h => by
              have : x = 0 := by have := eq_of_beq h; omega
              omega
            have hwm : IntKind.u64.wrap (m : Int) = (m : Int) := by simp [IntKind.wrap, IntKind.bits, IntKind.signed]; omega
            have hwu : IntKind.i64.wrap ((u / 2 : Nat) : Int) = ((u / 2 : Nat) : Int) := by simp [IntKind.wrap, IntKind.bits, IntKind.signed]; omega
            have hm2 : (u : Int).tmod 2 = ((u % 2 : Nat) : Int) := by rw [Int.tmod_eq_emod_of_nonneg (by omega)]; omega
            have hq2 : (u : Int).tdiv 2 = ((u / 2 : Nat) : Int) := by rw [Int.tdiv_eq_ediv_of_nonneg (by omega)]; omega
            have hcur : Hid (curs bs (some (bs.drop (j + k + 1))) = (j : Int) + (k : Int) + 1) := by
              unfold Hid curs
              simp only [List.length_drop]
              have := hL.out
              omega
            have HB := hbad
            have HGo : Hid (¬ u % 2 = 1 → ¬ m < u / 2 → Q (.returned (.tuple #[.int .i64 ((u / 2 : Nat) : Int), .int .i64 ((j : Int) + (k : Int) + 1)])) wr) := fun h1 h2 => by
              have := hgood.out u _ (numO_ok HG.out h1 h2)
              rw [hcur.out] at this
              exact this
            have HB1 : Hid (u % 2 = 1 → Q (.returned (.tuple #[.int .i64 0, .int .i64 (-1)])) wr) := fun h => hbad.out (numO_odd HG.out h)
            have HB2 : Hid (m < u / 2 → Q (.returned (.tuple #[.int .i64 0, .int .i64 (-1)])) wr) := fun h => hbad.out (numO_most HG.out h)
            clear hgr c1 hu' hbad hgood HB HG hcur c3
            obtain ⟨q, hqe⟩ : ∃ q, q = u / 2 := ⟨_, rfl⟩
            obtain ⟨r, hre⟩ : ∃ r, r = u % 2 := ⟨_, rfl⟩
            rw [← hqe] at hwu hq2 HGo HB2
            rw [← hre] at hm2 HGo HB1
            have hql : q ≤ 9223372036854775807 := by omega
            clear hqe
            have hr2 : r < 2 := by omega
            clear hre
            cases hke : ((k : Int) == 9) <;> cases hxe : ((x : Int) == 0)
            all_goals
              try have hd1 := hor.out hke
              try have hd3 := hc3.out hxe
              clear hor hc3
              cases hr1 : ((r : Int) == 1)
              · have hr1' : ¬ r = 1 := fun h => by rw [h] at hr1; simp at hr1
                by_cases hmq : m < q
                · have hd4 : decide ((m : Int) < (q : Int)) = true := by simp; omega
                  have HF := HB2.out hmq
                  clear HB1 HB2 HGo hr1'
                  go_wp2_with fail
                  all_goals first | exact HF | (exfalso; have := hK0.out hxe; omega)
                · have hd4 : decide ((m : Int) < (q : Int)) = false := by simp; omega
                  have HF := HGo.out hr1' hmq
                  have HF0 : Hid (decide ((0 : Int) < (k : Int)) = false → Q (.returned (.tuple #[.int .i64 (q : Int), .int .i64 ((j : Int) + 1)])) wr) := fun h => by
                    have : k = 0 := by simp at h; omega
                    have h2 := HGo.out hr1' hmq
                    rw [this] at h2
                    simpa using h2
                  clear HB1 HB2 HGo hr1'
                  try replace hd3 := hide_it hd3
                  try have hd3' := hd3.out
                  go_wp2_with fail
                  all_goals first | exact HF | exact HF0.out hd3.out | (exfalso; have := hK0.out hxe; omega)
              · have hr1' : r = 1 := by have := eq_of_beq hr1; omega
                have HF := HB1.out hr1'
                clear HB1 HB2 HGo hr1'
                go_wp2_with fail
                all_goals first | exact HF | (exfalso; have := hK0.out hxe; omega)
end Go.Proofs.Ytlhlpofmeeiffab
