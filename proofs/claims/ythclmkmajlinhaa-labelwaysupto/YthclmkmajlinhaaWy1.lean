/- Ways: 'has', and who is reached in how many turns, as plain mathematics. -/
import Derived.Test.YthclmkmajlinhaaCv2
import Derived.Test.YthclmkmajlinhaaCmp2
namespace Go.Proofs.Ythclmkmajlinhaa
open Go.RowKit

theorem plOf_mem (p : Nat → Bool) (zs : List Nat) {n i : Nat} (hi : i < n) : decide (i ∈ plOf p zs n) = p (at0 zs i) := by
  unfold plOf
  rw [Bool.eq_iff_iff, decide_eq_true_iff, List.mem_filter, List.mem_range]
  exact ⟨fun h => h.2, fun h => ⟨hi, h⟩⟩
set_option maxHeartbeats 400000 in
theorem hasI_any (a : Option Addr) (cap : Nat) (xs : List Nat) (x : Nat) (w : World) (hr : RowI w a xs) (hl : xs.length ≤ maxLen) :
    Calls Try.prog 22 #[.slice a xs.length cap, .int .i64 (x : Int)] w fun e w' => e = .returned (.bool (decide (x ∈ xs))) ∧ w' = w := by
  unfold maxLen at hl
  go_enter Try.func22, Try.ntmps22
  go_wp2
  go_loop [5] (fun i => ∃ k : Nat, k ≤ xs.length ∧ i = .int .i64 k ∧ Hid (notIn xs x k)) (fun i => xs.length - (intOf i).toNat)
  case atStart => exact ⟨0, by omega, rfl, fun i hi => by omega⟩
  case round =>
    obtain ⟨k, hk, rfl, hto⟩ := hrel
    by_cases hlt : k < xs.length
    · obtain ⟨b, o, rfl, _, hc⟩ := hr.here hlt
      have hck := hc k hlt
      clear hr hc
      obtain ⟨z, hz⟩ : ∃ z, z = at0 xs k := ⟨_, rfl⟩
      have HZ : Hid (z = at0 xs k) := hz
      rw [← hz] at hck
      clear hz
      cases he : ((z : Int) == (x : Int))
      · go_wp2
        go_round
        case rel => exact ⟨k + 1, by omega, by go_num, notIn_succ hto (fun e => by have h2 := HZ.out; rw [← h2] at e; subst e; simp at he)⟩
        case measure => simp [intOf]; omega
      · go_wp2
        go_ret
        have e2 : at0 xs k = x := by have h2 := HZ.out; have := eq_of_beq he; omega
        rw [decide_eq_true (e2 ▸ at0_mem hlt)]
        exact ⟨rfl, rfl⟩
    · go_wp2
      go_ret
      have he : k = xs.length := by omega
      subst he
      rw [decide_eq_false (fun hm => by obtain ⟨j, hj, e⟩ := mem_at0 hm; exact hto j hj e)]
      exact ⟨rfl, rfl⟩

/-- Between a label and one above it there is one that is right below the upper one. -/
theorem cov_under {zs : List Nat} {x y : Nat} : ∀ (n z : Nat), y - z ≤ n → z ∈ zs → lq x z = true → bel z y = true → ∃ u ∈ zs, lq x u = true ∧ cov zs u y = true := by
  intro n
  induction n with
  | zero => intro z hn _ _ hb; have := bel_lt hb; omega
  | succ n ih =>
    intro z hn hz hx hb
    cases hbt : btw zs z y with
    | false => exact ⟨z, hz, hx, by unfold cov; rw [hb, hbt]; rfl⟩
    | true =>
      obtain ⟨u, hu, h1, h2⟩ := (btw_iff zs z y).1 hbt
      have := bel_lt h1
      have := bel_lt h2
      exact ih u (by omega) hu (lq_trans hx ((bel_iff z u).1 h1).2) h2
/-- Who must be reached after t turns from place i. -/
def Rt (zs : List Nat) (i t p : Nat) : Prop := p = i ∨ bel (at0 zs i) (at0 zs p) = true ∧ pc (at0 zs p) ≤ pc (at0 zs i) + t
theorem rt_step {zs : List Nat} (h64 : All64 zs) {i t p : Nat} (hi : i < zs.length) (h : Rt zs i (t + 1) p) : p = i ∨ ∃ m, m < zs.length ∧ Rt zs i t m ∧ cov zs (at0 zs m) (at0 zs p) = true := by
  rcases h with h | ⟨hb, hp⟩
  · exact .inl h
  · refine .inr ?_
    obtain ⟨u, hu, hxu, hc⟩ := cov_under (zs := zs) (x := at0 zs i) (y := at0 zs p) _ _ (Nat.le_refl _) (at0_mem hi) (lq_refl _) hb
    have hbu : bel u (at0 zs p) = true := by unfold cov at hc; rw [Bool.and_eq_true] at hc; exact hc.1
    have hlt := pc_lt (h64.at p) hbu
    by_cases e : u = at0 zs i
    · exact ⟨i, hi, .inl rfl, by rw [← e]; exact hc⟩
    · obtain ⟨m, hm, rfl⟩ := mem_at0 hu
      exact ⟨m, hm, .inr ⟨(bel_iff _ _).2 ⟨fun e2 => e e2.symm, hxu⟩, by omega⟩, hc⟩
theorem prs_mem {zs : List Nat} {m p : Nat} (hm : m < zs.length) (hp : p < zs.length) (hc : cov zs (at0 zs m) (at0 zs p) = true) : (m, p) ∈ prs zs zs.length := by
  unfold prs covTo
  rw [List.mem_flatMap]
  refine ⟨m, List.mem_range.2 hm, ?_⟩
  rw [List.mem_map]
  exact ⟨p, List.mem_filter.2 ⟨List.mem_range.2 hp, hc⟩, rfl⟩
theorem prs_in {zs : List Nat} {q : Nat × Nat} (h : q ∈ prs zs zs.length) : q.1 < zs.length ∧ q.2 < zs.length := by
  unfold prs covTo at h
  rw [List.mem_flatMap] at h
  obtain ⟨m, hm, h⟩ := h
  rw [List.mem_map] at h
  obtain ⟨p, hp, rfl⟩ := h
  exact ⟨List.mem_range.1 hm, List.mem_range.1 (List.mem_filter.1 hp).1⟩
theorem pair_at {xs : List (Nat × Nat)} {k : Nat} (hk : k < xs.length) : (fstAt xs k, sndAt xs k) ∈ xs := by
  unfold fstAt sndAt
  rw [List.getD_eq_getElem?_getD, List.getElem?_eq_getElem hk]
  exact List.getElem_mem hk
theorem at_pair {xs : List (Nat × Nat)} {m p : Nat} (h : (m, p) ∈ xs) : ∃ k, k < xs.length ∧ fstAt xs k = m ∧ sndAt xs k = p := by
  obtain ⟨k, hk, e⟩ := List.getElem_of_mem h
  have e2 : xs.getD k (0, 0) = (m, p) := by rw [List.getD_eq_getElem?_getD, List.getElem?_eq_getElem hk, Option.getD_some, e]
  exact ⟨k, hk, by unfold fstAt; rw [e2], by unfold sndAt; rw [e2]⟩
/-- What is reached in the midst of turn t. -/
structure Got (zs : List Nat) (i t k : Nat) (R : Nat → Bool) : Prop where
  old : ∀ p, p < zs.length → Rt zs i t p → R p = true
  new : ∀ j, j < k → Rt zs i t (fstAt (prs zs zs.length) j) → R (sndAt (prs zs zs.length) j) = true
theorem Got.turn {zs : List Nat} (h64 : All64 zs) {i t : Nat} {R : Nat → Bool} (hi : i < zs.length) (H : Got zs i t (prs zs zs.length).length R) : Got zs i (t + 1) 0 R := by
  refine ⟨fun p hp hr => ?_, fun j hj => by omega⟩
  rcases rt_step h64 hi hr with e | ⟨m, hm, hrm, hc⟩
  · exact H.old p hp (.inl e)
  · obtain ⟨k, hk, e1, e2⟩ := at_pair (prs_mem hm hp hc)
    have := H.new k hk (by rw [e1]; exact hrm)
    rwa [e2] at this
theorem Got.yes {zs : List Nat} {i t k : Nat} {R : Nat → Bool} (H : Got zs i t k R) : Got zs i t (k + 1) (fun p => if p = sndAt (prs zs zs.length) k then true else R p) := by
  refine ⟨fun p hp hr => ?_, fun j hj hr => ?_⟩
  · by_cases e : p = sndAt (prs zs zs.length) k
    · simp only [e, if_true]
    · simp only [e, if_false]; exact H.old p hp hr
  · by_cases e : sndAt (prs zs zs.length) j = sndAt (prs zs zs.length) k
    · simp only [e, if_true]
    · simp only [e, if_false]
      exact H.new j (by
        rcases Nat.lt_or_ge j k with h | h
        · exact h
        · exact absurd (by rw [show j = k by omega]) e) hr
theorem Got.no {zs : List Nat} {i t k : Nat} {R : Nat → Bool} (H : Got zs i t k R) (hk : k < (prs zs zs.length).length) (hR : R (fstAt (prs zs zs.length) k) = false) : Got zs i t (k + 1) R := by
  refine ⟨H.old, fun j hj hr => ?_⟩
  by_cases e : j = k
  · subst e
    have := H.old _ (prs_in (pair_at hk)).1 hr
    rw [hR] at this
    cases this
  · exact H.new j (by omega) hr
theorem Got.start {zs : List Nat} (h64 : All64 zs) {i : Nat} : Got zs i 0 0 (fun p => if p = i then true else false) := by
  refine ⟨fun p hp hr => ?_, fun j hj => by omega⟩
  rcases hr with e | ⟨hb, hp⟩
  · simp only [e, if_true]
  · have := pc_lt (h64.at p) hb
    omega
theorem Got.fin {zs : List Nat} {i j : Nat} {R : Nat → Bool} (H : Got zs i 65 0 R) (hj : j < zs.length) (hb : bel (at0 zs i) (at0 zs j) = true) : R j = true :=
  H.old j hj (.inr ⟨hb, by have := pc_le (at0 zs j); omega⟩)

end Go.Proofs.Ythclmkmajlinhaa
