/- Rows of pairs; the document's 'between'; two like rows of pairs compared. -/
import Derived.Test.YthclmkmajlinhabCv1
import Derived.Test.YthclmkmajlinhabHg5
import Derived.Deep.MidRow
namespace Go.Proofs.Ythclmkmajlinhab
open Go.RowKit

def fstAt (xs : List (Nat × Nat)) (i : Nat) : Nat := (xs.getD i (0, 0)).1
def sndAt (xs : List (Nat × Nat)) (i : Nat) : Nat := (xs.getD i (0, 0)).2
/-- A row of pairs. -/
def RowP (w : World) (a : Option Addr) (xs : List (Nat × Nat)) : Prop :=
  xs.length = 0 ∨ ∃ b, a = some ⟨b, 0, none⟩ ∧ b < w.heap.size ∧ ∀ i, i < xs.length → w.cell? ⟨b, i * 2, none⟩ = some (.int .i64 (fstAt xs i : Nat)) ∧ w.cell? ⟨b, i * 2 + 1, none⟩ = some (.int .i64 (sndAt xs i : Nat))
theorem RowP.below {w w' : World} {a : Option Addr} {xs : List (Nat × Nat)} (h : RowP w a xs) (hb : Below w.heap.size w w') : RowP w' a xs := by
  rcases h with h | ⟨b, e, hlt, hc⟩
  · exact .inl h
  · exact .inr ⟨b, e, Nat.lt_of_lt_of_le hlt hb.size, fun i hi => by rw [hb.cell (p := ⟨b, i * 2, none⟩) hlt, hb.cell (p := ⟨b, i * 2 + 1, none⟩) hlt]; exact hc i hi⟩
theorem RowP.here {w : World} {a : Option Addr} {xs : List (Nat × Nat)} (h : RowP w a xs) {i : Nat} (hi : i < xs.length) :
    ∃ b, a = some ⟨b, 0, none⟩ ∧ b < w.heap.size ∧ ∀ i, i < xs.length → w.cell? ⟨b, i * 2, none⟩ = some (.int .i64 (fstAt xs i : Nat)) ∧ w.cell? ⟨b, i * 2 + 1, none⟩ = some (.int .i64 (sndAt xs i : Nat)) := by
  rcases h with h | h
  · omega
  · exact h
theorem flat_get : ∀ (xs : List (Nat × Nat)) (i : Nat), i < xs.length → (xs.flatMap encP)[i * 2]? = some (.int .i64 (fstAt xs i : Nat)) ∧ (xs.flatMap encP)[i * 2 + 1]? = some (.int .i64 (sndAt xs i : Nat)) := by
  intro xs
  induction xs with
  | nil => intro i hi; simp at hi
  | cons p xs ih =>
    intro i hi
    rw [List.flatMap_cons]
    cases i with
    | zero => exact ⟨rfl, rfl⟩
    | succ i =>
      have h1 := ih i (by simpa using hi)
      have e1 : (i + 1) * 2 = i * 2 + 2 := by omega
      have e2 : (i + 1) * 2 + 1 = (i * 2 + 1) + 2 := by omega
      rw [e2, e1]
      exact h1
theorem rowP_of_owns {w : World} {base : Nat} {v : Value} {xs : List (Nat × Nat)} (h : w.ownsRow base 34 2 v xs.length (xs.flatMap encP)) : ∃ a cap, v = .slice a xs.length cap ∧ RowP w a xs ∧ xs.length ≤ cap := by
  rcases h.2 with ⟨rfl, h0⟩ | ⟨g, cap, cur, rfl, _, hh, hn, _, _, ht⟩
  · exact ⟨none, 0, by rw [h0], .inl h0, by omega⟩
  · refine ⟨_, cap, rfl, .inr ⟨g, rfl, (Array.getElem?_eq_some_iff.1 hh).1, fun i hi => ?_⟩, hn⟩
    have hf := flat_get xs i hi
    rw [cell_of_row _ _ _ _ _ _ hh, cell_of_row _ _ _ _ _ _ hh]
    have h3 : (cur.toList.take (xs.length * 2))[i * 2]? = (xs.flatMap encP)[i * 2]? := by rw [ht]
    have h4 : (cur.toList.take (xs.length * 2))[i * 2 + 1]? = (xs.flatMap encP)[i * 2 + 1]? := by rw [ht]
    rw [List.getElem?_take_of_lt (by omega)] at h3 h4
    rw [← Array.getElem?_toList, ← Array.getElem?_toList, h3, h4]
    exact hf

/-- None of the first k stands between. -/
def noBtw (S : List Nat) (x y k : Nat) : Prop := ∀ j, j < k → (bel x (at0 S j) && bel (at0 S j) y) = false
theorem btw_none {S : List Nat} {x y : Nat} (h : noBtw S x y S.length) : btw S x y = false := by
  cases hb : btw S x y with
  | false => rfl
  | true =>
    obtain ⟨z, hz, h1, h2⟩ := (btw_iff S x y).1 hb
    obtain ⟨j, hj, rfl⟩ := mem_at0 hz
    have := h j hj
    rw [h1, h2] at this
    cases this
theorem btw_some {S : List Nat} {x y k : Nat} (hk : k < S.length) (h1 : bel x (at0 S k) = true) (h2 : bel (at0 S k) y = true) : btw S x y = true := (btw_iff S x y).2 ⟨_, at0_mem hk, h1, h2⟩
theorem noBtw_succ {S : List Nat} {x y k : Nat} (h : noBtw S x y k) (h1 : (bel x (at0 S k) && bel (at0 S k) y) = false) : noBtw S x y (k + 1) := fun j hj => by
  by_cases e : j = k
  · subst e; exact h1
  · exact h j (by omega)

set_option maxRecDepth 100000 in
set_option maxHeartbeats 1000000 in
theorem rbetween_any (a : Option Addr) (cap : Nat) (S : List Nat) (x y : Nat) (w : World) (hr : Row w a S) (h64 : All64 S) (hx : W64 x) (hy : W64 y) (hl : S.length ≤ maxLen) :
    Calls Try.prog 16 #[.slice a S.length cap, .int .u64 (x : Int), .int .u64 (y : Int)] w fun e w' => e = .returned (.bool (btw S x y)) ∧ w' = w := by
  unfold maxLen at hl
  go_enter Try.func16, Try.ntmps16
  go_wp2_with fail
  go_loopw [7] (fun i wr => ∃ k : Nat, k ≤ S.length ∧ i = .int .i64 k ∧ wr = w ∧ Hid (noBtw S x y k)) (fun i _ => S.length - (intOf i).toNat)
  case atStart => exact ⟨0, by omega, rfl, rfl, fun j hj => by omega⟩
  case round =>
    obtain ⟨k, hk, rfl, rfl, hno⟩ := hrel
    by_cases hlt : k < S.length
    · obtain ⟨b, o, rfl, _, hc⟩ := hr.here hlt
      have hck := hc k hlt
      have hZ := h64.at k
      have hsome := fun h1 h2 => btw_some (x := x) (y := y) hlt h1 h2
      have hnext := fun h1 => noBtw_succ hno.out h1
      obtain ⟨z, hz⟩ : ∃ z, z = at0 S k := ⟨_, rfl⟩
      rw [← hz] at hck hZ hsome hnext
      have HS := hidden hsome
      have HN := hidden hnext
      clear hz hc hsome hnext
      have hb1 := rbelow_any x z wr hx hZ
      have hb2 := rbelow_any z y wr hZ hy
      cases h1 : bel x z with
      | false =>
        rw [h1] at hb1
        have H1 := hidden h1
        clear h1 hb2
        go_wp2_with fail
        refine hb1.mono ?_
        rintro e w1 ⟨rfl, hq⟩
        subst hq
        clear hb1
        go_wp2_with fail
        go_roundw
        case rel => exact ⟨k + 1, by omega, by go_num, trivial, HN.out (by rw [H1.out]; rfl)⟩
        case measure => simp [intOf]; omega
      | true =>
        rw [h1] at hb1
        have H1 := hidden h1
        clear h1
        go_wp2_with fail
        refine hb1.mono ?_
        rintro e w1 ⟨rfl, hq⟩
        subst hq
        clear hb1
        cases h2 : bel z y with
        | false =>
          rw [h2] at hb2
          have H2 := hidden h2
          clear h2
          go_wp2_with fail
          refine hb2.mono ?_
          rintro e w2 ⟨rfl, hq⟩
          subst hq
          clear hb2
          go_wp2_with fail
          go_roundw
          case rel => exact ⟨k + 1, by omega, by go_num, trivial, HN.out (by rw [H1.out, H2.out]; rfl)⟩
          case measure => simp [intOf]; omega
        | true =>
          rw [h2] at hb2
          have H2 := hidden h2
          clear h2
          go_wp2_with fail
          refine hb2.mono ?_
          rintro e w2 ⟨rfl, hq⟩
          subst hq
          clear hb2
          go_wp2_with fail
          go_ret
          rw [HS.out H1.out H2.out]
          exact ⟨rfl, rfl⟩
    · have hkn : k = S.length := by omega
      subst hkn
      go_wp2_with fail
      go_ret
      rw [btw_none hno.out]
      exact ⟨rfl, rfl⟩

theorem pair_under : Try.prog.underlying 34 = some (.array 2 3) := by kernel_rfl
theorem pair_size : (Try.prog.info? 34).map (·.size) = some 2 := by kernel_rfl
theorem range_two {w : World} {b i : Nat} {u v : Value} (h1 : w.cell? ⟨b, i, none⟩ = some u) (h2 : w.cell? ⟨b, i + 1, none⟩ = some v) : w.rangeAt b i [u, v] := fun j x hj => by
  match j with
  | 0 => simp at hj; subst hj; simpa using h1
  | 1 => simp at hj; subst hj; simpa using h2
  | j + 2 => simp at hj

theorem eq_pair (x y : Int) (w : World) : (Op.equalIn 10000 34 (.agg #[.int .i64 x, .int .i64 y]) (.agg #[.int .i64 x, .int .i64 y])).run Try.prog w = .ok true w := by
  have hu := pair_under
  have h3 := Try.underlying3
  have h4 := Try.isAgg3
  have h5 := Try.sizeOf3
  rw [show (10000 : Nat) = 9999 + 1 from rfl]
  unfold Op.equalIn
  simp only [Sem.run_bind, run_underlying hu, Result.andThen_ok]
  simp only [Std.Legacy.Range.forIn_eq_forIn_range', Std.Legacy.Range.size, Nat.sub_zero, Nat.add_sub_cancel, Nat.div_one, List.range'_succ, List.range'_zero, List.forIn_cons, List.forIn_nil]
  go_simp

set_option maxRecDepth 100000 in
set_option maxHeartbeats 1000000 in
theorem samePairs_any (a b : Option Addr) (ca cb : Nat) (xs : List (Nat × Nat)) (w : World) (hx : RowP w a xs) (hy : RowP w b xs) (hl : xs.length ≤ maxLen) :
    Calls Try.prog 11 #[.slice a xs.length ca, .slice b xs.length cb] w fun e w' => e = .returned (.bool true) ∧ Below w.heap.size w w' := by
  unfold maxLen at hl
  have hd : ((xs.length : Int) != (xs.length : Int)) = false := by simp
  go_enter Try.func11, Try.ntmps11
  go_wp2_with fail
  go_loopw [5] (fun i wr => ∃ k : Nat, k ≤ xs.length ∧ i = .int .i64 k ∧ Below w.heap.size w wr) (fun i _ => xs.length - (intOf i).toNat)
  case atStart => exact ⟨0, by omega, rfl, Below.refl _ _⟩
  case round =>
    obtain ⟨k, hk, rfl, hbl⟩ := hrel
    by_cases hlt : k < xs.length
    · obtain ⟨b1, rfl, g1, hc1⟩ := (hx.below hbl).here hlt
      obtain ⟨b2, rfl, g2, hc2⟩ := (hy.below hbl).here hlt
      have r1 := range_two (hc1 k hlt).1 (hc1 k hlt).2
      have r2 := range_two (hc2 k hlt).1 (hc2 k hlt).2
      obtain ⟨x, hxe⟩ : ∃ x, x = fstAt xs k := ⟨_, rfl⟩
      obtain ⟨y, hye⟩ : ∃ y, y = sndAt xs k := ⟨_, rfl⟩
      rw [← hxe, ← hye] at r1 r2
      have hi1 : (k : Int) < (xs.length : Int) := by omega
      clear hxe hye hc1 hc2
      have c1 := r1 0 _ rfl
      have c2 := r1 1 _ rfl
      have c3 := r2 0 _ rfl
      have c4 := r2 1 _ rfl
      rw [Nat.add_zero] at c1 c3
      have hdd := eq_pair (x : Int) (y : Int)
      clear r1 r2
      go_wp2_with fail
      refine wp_region_held_drew (S := (fun w' => Below wr.heap.size wr w')) (by kernel_rfl) ?_ (fun hHeld => ?_)
      · exact (Below.refl _ _).drew
      refine take_on (i := 0) (v := ?_) rfl rfl (by kernel_rfl) (by kernel_rfl) (by kernel_rfl) (fun _ _ _ h => h) rfl ?_ hHeld ?_
      rotate_left
      · (intro wq hSq; have q1 := (hSq.cell (p := ⟨b1, k * 2, none⟩) g1).trans c1; have q2 := (hSq.cell (p := ⟨b1, k * 2 + 1, none⟩) g1).trans c2; have q3 := (hSq.cell (p := ⟨b2, k * 2, none⟩) g2).trans c3; have q4 := (hSq.cell (p := ⟨b2, k * 2 + 1, none⟩) g2).trans c4; go_simp <;> first | with_reducible rfl | rfl)
      simp only [Act.put, List.setIfInBounds_toArray, List.set_cons_zero, List.set_cons_succ]
      refine take_on (i := 1) (v := ?_) rfl rfl (by kernel_rfl) (by kernel_rfl) (by kernel_rfl) (fun _ _ _ h => h) rfl ?_ hHeld ?_
      rotate_left
      · (intro wq hSq; have q1 := (hSq.cell (p := ⟨b1, k * 2, none⟩) g1).trans c1; have q2 := (hSq.cell (p := ⟨b1, k * 2 + 1, none⟩) g1).trans c2; have q3 := (hSq.cell (p := ⟨b2, k * 2, none⟩) g2).trans c3; have q4 := (hSq.cell (p := ⟨b2, k * 2 + 1, none⟩) g2).trans c4; go_simp <;> first | with_reducible rfl | rfl)
      simp only [Act.put, List.setIfInBounds_toArray, List.set_cons_zero, List.set_cons_succ]
      refine take_on (i := 2) (v := ?_) rfl rfl (by kernel_rfl) (by kernel_rfl) (by kernel_rfl) (fun _ _ _ h => h) rfl ?_ hHeld ?_
      rotate_left
      · (intro wq hSq; have q1 := (hSq.cell (p := ⟨b1, k * 2, none⟩) g1).trans c1; have q2 := (hSq.cell (p := ⟨b1, k * 2 + 1, none⟩) g1).trans c2; have q3 := (hSq.cell (p := ⟨b2, k * 2, none⟩) g2).trans c3; have q4 := (hSq.cell (p := ⟨b2, k * 2 + 1, none⟩) g2).trans c4; go_simp <;> first | with_reducible rfl | rfl)
      simp only [Act.put, List.setIfInBounds_toArray, List.set_cons_zero, List.set_cons_succ]
      refine take_on (i := 3) (v := ?_) rfl rfl (by kernel_rfl) (by kernel_rfl) (by kernel_rfl) (fun _ _ _ h => h) rfl ?_ hHeld ?_
      rotate_left
      · (intro wq hSq; have q1 := (hSq.cell (p := ⟨b1, k * 2, none⟩) g1).trans c1; have q2 := (hSq.cell (p := ⟨b1, k * 2 + 1, none⟩) g1).trans c2; have q3 := (hSq.cell (p := ⟨b2, k * 2, none⟩) g2).trans c3; have q4 := (hSq.cell (p := ⟨b2, k * 2 + 1, none⟩) g2).trans c4; go_simp <;> first | with_reducible rfl | rfl)
      simp only [Act.put, List.setIfInBounds_toArray, List.set_cons_zero, List.set_cons_succ]
      refine take_on (i := 4) (v := ?_) rfl rfl (by kernel_rfl) (by kernel_rfl) (by kernel_rfl) (fun _ _ _ h => h) rfl ?_ hHeld ?_
      rotate_left
      · (intro wq hSq; have q1 := (hSq.cell (p := ⟨b1, k * 2, none⟩) g1).trans c1; have q2 := (hSq.cell (p := ⟨b1, k * 2 + 1, none⟩) g1).trans c2; have q3 := (hSq.cell (p := ⟨b2, k * 2, none⟩) g2).trans c3; have q4 := (hSq.cell (p := ⟨b2, k * 2 + 1, none⟩) g2).trans c4; go_simp <;> first | with_reducible rfl | rfl)
      simp only [Act.put, List.setIfInBounds_toArray, List.set_cons_zero, List.set_cons_succ]
      refine take_on (i := 5) (v := ?_) rfl rfl (by kernel_rfl) (by kernel_rfl) (by kernel_rfl) (fun _ _ _ h => h) rfl ?_ hHeld ?_
      rotate_left
      · (intro wq hSq; have q1 := (hSq.cell (p := ⟨b1, k * 2, none⟩) g1).trans c1; have q2 := (hSq.cell (p := ⟨b1, k * 2 + 1, none⟩) g1).trans c2; have q3 := (hSq.cell (p := ⟨b2, k * 2, none⟩) g2).trans c3; have q4 := (hSq.cell (p := ⟨b2, k * 2 + 1, none⟩) g2).trans c4; go_simp <;> first | with_reducible rfl | rfl)
      simp only [Act.put, List.setIfInBounds_toArray, List.set_cons_zero, List.set_cons_succ]
      refine take_on (i := 6) (v := ?_) rfl rfl (by kernel_rfl) (by kernel_rfl) (by kernel_rfl) (fun _ _ _ h => h) rfl ?_ hHeld ?_
      rotate_left
      · (intro wq hSq; have q1 := (hSq.cell (p := ⟨b1, k * 2, none⟩) g1).trans c1; have q2 := (hSq.cell (p := ⟨b1, k * 2 + 1, none⟩) g1).trans c2; have q3 := (hSq.cell (p := ⟨b2, k * 2, none⟩) g2).trans c3; have q4 := (hSq.cell (p := ⟨b2, k * 2 + 1, none⟩) g2).trans c4; go_simp <;> first | with_reducible rfl | rfl)
      simp only [Act.put, List.setIfInBounds_toArray, List.set_cons_zero, List.set_cons_succ]
      refine take_on (i := 7) (v := ?_) rfl rfl (by kernel_rfl) (by kernel_rfl) (by kernel_rfl) (fun _ _ _ h => h) rfl ?_ hHeld ?_
      rotate_left
      · (intro wq hSq; have q1 := (hSq.cell (p := ⟨b1, k * 2, none⟩) g1).trans c1; have q2 := (hSq.cell (p := ⟨b1, k * 2 + 1, none⟩) g1).trans c2; have q3 := (hSq.cell (p := ⟨b2, k * 2, none⟩) g2).trans c3; have q4 := (hSq.cell (p := ⟨b2, k * 2 + 1, none⟩) g2).trans c4; go_simp <;> first | with_reducible rfl | rfl)
      simp only [Act.put, List.setIfInBounds_toArray, List.set_cons_zero, List.set_cons_succ]
      refine take_on (i := 8) (v := ?_) rfl rfl (by kernel_rfl) (by kernel_rfl) (by kernel_rfl) (fun _ _ _ h => h) rfl ?_ hHeld ?_
      rotate_left
      · (intro wq hSq; have q1 := (hSq.cell (p := ⟨b1, k * 2, none⟩) g1).trans c1; have q2 := (hSq.cell (p := ⟨b1, k * 2 + 1, none⟩) g1).trans c2; have q3 := (hSq.cell (p := ⟨b2, k * 2, none⟩) g2).trans c3; have q4 := (hSq.cell (p := ⟨b2, k * 2 + 1, none⟩) g2).trans c4; go_simp <;> first | with_reducible rfl | rfl)
      simp only [Act.put, List.setIfInBounds_toArray, List.set_cons_zero, List.set_cons_succ]
      refine wpAnyH_done (by kernel_rfl) ?_ _
      go_wp2_with fail
      go_roundw
      case rel => exact ⟨k + 1, by omega, by go_num, hbl.drew⟩
      case measure => simp [intOf]; omega
    · have hkn : k = xs.length := by omega
      subst hkn
      go_wp2_with fail
      go_ret
      exact ⟨rfl, hbl⟩

end Go.Proofs.Ythclmkmajlinhab
