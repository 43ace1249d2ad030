/- The document's numbers and rows off bytes, at every place. -/
import Derived.Test.YtlhlpofmeeiffabEi1
namespace Go.Proofs.Ytlhlpofmeeiffab
open Go.RowKit

theorem curs_at (bs : List Nat) {j : Nat} (hj : j ≤ bs.length) : curs bs (some (bs.drop j)) = (j : Int) := by
  unfold curs; simp only [List.length_drop]; omega

theorem rnumber_any (a : Option Addr) (cap m : Nat) (bs : List Nat) (o : Option (List Nat)) (w : World) (hr : RowB w a bs) (h8 : All8 bs) (ho : EndO bs o) (hl : bs.length ≤ 140737488355328) (hm : m ≤ 4611686018427387904) :
    Calls Try.prog 41 #[.slice a bs.length cap, .int .i64 (curs bs o), .int .i64 (m : Int)] w fun e w' => e = .returned (.tuple #[.int .i64 (numO (m : Int) o).1, .int .i64 (curs bs (numO (m : Int) o).2)]) ∧ w' = w := by
  cases o with
  | none => exact rnumber_none a cap m bs w
  | some t =>
    obtain ⟨j, hj, rfl⟩ := ho t rfl
    rw [curs_at bs hj]
    exact rnumber_at a cap m j bs w hr h8 hj hl hm

theorem numO_nat {m : Nat} {o : Option (List Nat)} {n : Int} {u : List Nat} (h : numO (m : Int) o = (n, some u)) : ∃ N : Nat, n = (N : Int) ∧ N ≤ m := by
  cases o with
  | none => cases h
  | some t =>
    unfold numO at h
    simp only [] at h
    cases e : takeShort 0 (m : Int) t with
    | error c => rw [e] at h; cases h
    | ok r =>
      obtain ⟨n', u'⟩ := r
      rw [e] at h
      cases h
      have := takeShort_nat e
      exact ⟨n.toNat, by omega, by omega⟩
theorem rowO_none {m : Int} {o : Option (List Nat)} (h : (numO m o).2 = none) : rowO m o = ([], none) := by
  cases o with
  | none => rfl
  | some t =>
    unfold numO at h
    unfold rowO takeCounted
    simp only [] at h ⊢
    cases e : takeShort 0 m t with
    | error c => rfl
    | ok r => obtain ⟨n, u⟩ := r; rw [e] at h; cases h
theorem rowO_some {m : Int} {o : Option (List Nat)} {N : Nat} {u : List Nat} (h : numO m o = ((N : Int), some u)) : rowO m o = if u.length < N then ([], none) else (u.take N, some (u.drop N)) := by
  cases o with
  | none => cases h
  | some t =>
    unfold numO at h
    unfold rowO takeCounted
    simp only [] at h ⊢
    cases e : takeShort 0 m t with
    | error c => rw [e] at h; cases h
    | ok r =>
      obtain ⟨n', u'⟩ := r
      rw [e] at h
      cases h
      simp only [Int.toNat_natCast]
      by_cases hlt : u.length < N
      · rw [if_pos hlt, if_pos hlt]
      · rw [if_neg hlt, if_neg hlt]

/-- A piece of a row of bytes. -/
theorem row_piece {w : World} {ra : Option Addr} {bs : List Nat} {rc : Nat} (h : RowB w ra bs) (hc : bs.length ≤ rc) (j m : Nat) (hm : j + m ≤ bs.length) : RowB w (if rc = j then ra else ra.map (·.add j)) ((bs.drop j).take m) := by
  have hlen : ((bs.drop j).take m).length = m := by simp; omega
  by_cases h0 : m = 0
  · exact .inl (by omega)
  · obtain ⟨b, o, rfl, hb, hcell⟩ := h.here (i := 0) (by omega)
    rw [if_neg (by omega)]
    refine .inr ⟨b, o + j, by simp [Addr.add_lit], hb, fun i hi => ?_⟩
    have h1 := hcell (j + i) (by omega)
    rw [show o + j + i = o + (j + i) by omega, h1, at0_take (by omega), at0_drop]

/-- What row answers. -/
def RowTo (bs : List Nat) (m : Int) (o : Option (List Nat)) (w : World) (e : Ending) (w' : World) : Prop :=
  (∃ v, e = .returned (.tuple #[v, .int .i64 (curs bs (rowO m o).2)]) ∧ OwnB w' w.heap.size v (rowO m o).1) ∧ Below w.heap.size w w'

set_option maxRecDepth 100000 in
set_option maxHeartbeats 400000 in
theorem rrow_any (a : Option Addr) (cap m : Nat) (bs : List Nat) (o : Option (List Nat)) (w : World) (hr : RowB w a bs) (h8 : All8 bs) (ho : EndO bs o) (hc : bs.length ≤ cap) (_hcm : cap ≤ maxLen) (hnil : a = none → bs.length = 0 ∧ cap = 0) (hl : bs.length ≤ 140737488355328) (hm : m ≤ 4611686018427387904) :
    Calls Try.prog 40 #[.slice a bs.length cap, .int .i64 (curs bs o), .int .i64 (m : Int)] w fun e w' => RowTo bs (m : Int) o w e w' := by
  have hx := rnumber_any a cap m bs o w hr h8 ho hl hm
  have hEnd := ho.num h8 (m : Int)
  obtain ⟨at0', hat⟩ : ∃ x, x = curs bs o := ⟨_, rfl⟩
  rw [← hat] at hx ⊢
  clear hat
  have hbad : Hid (rowO (m : Int) o = ([], none) → RowTo bs (m : Int) o w (.returned (.tuple #[.slice none 0 0, .int .i64 (-1)])) w) := fun h => by
    unfold RowTo
    rw [h]
    exact ⟨⟨_, rfl, World.ownsRow_nil _ _ _ _⟩, Below.refl _ _⟩
  have HGd : Hid (∀ v w' p u, rowO (m : Int) o = (p, some u) → OwnB w' w.heap.size v p → Below w.heap.size w w' → RowTo bs (m : Int) o w (.returned (.tuple #[v, .int .i64 (curs bs (some u))])) w') := fun v w' p u h h1 h2 => by
    unfold RowTo
    rw [h]
    exact ⟨⟨_, rfl, h1⟩, h2⟩
  generalize hQ : RowTo bs (m : Int) o w = Q at *
  clear hQ
  obtain ⟨⟨n, o2⟩, hno⟩ : ∃ r, r = numO (m : Int) o := ⟨_, rfl⟩
  rw [← hno] at hx hEnd
  simp only at hx hEnd
  cases o2 with
  | none =>
    have HF := hbad.out (rowO_none (by rw [← hno]))
    have hcn : curs bs none = -1 := rfl
    rw [hcn] at hx
    clear hbad HGd hno hr hcn hEnd
    generalize bs.length = L at *
    go_enter Try.func40, Try.ntmps40
    go_wp2_with fail
    refine hx.mono ?_
    rintro e w1 ⟨rfl, hq⟩
    have hq2 := hq.symm
    subst hq2
    clear hq hx
    go_wp2_with fail
    first | exact HF | (go_ret2; exact HF)
  | some t =>
    obtain ⟨N, rfl, hN⟩ := numO_nat hno.symm
    obtain ⟨j, hj, rfl⟩ := hEnd t rfl
    have hrow := rowO_some hno.symm
    rw [curs_at bs hj] at hx
    obtain ⟨L, hL⟩ : ∃ L, L = bs.length := ⟨_, rfl⟩
    have hlen : (bs.drop j).length = L - j := by rw [hL, List.length_drop]
    rw [hlen] at hrow
    rw [← hL] at hj hx hc hl hnil ⊢
    by_cases hlt : L - j < N
    · have HF := hbad.out (by rw [hrow, if_pos hlt])
      have hd : decide ((L : Int) - (j : Int) < (N : Int)) = true := by simp; omega
      have hw1 : IntKind.i64.wrap ((L : Int) - (j : Int)) = (L : Int) - (j : Int) := by rw [IntKind.wrap_i64]; omega
      clear hbad HGd hno hr hrow hlen hL hEnd
      go_enter Try.func40, Try.ntmps40
      go_wp2_with fail
      refine hx.mono ?_
      rintro e w1 ⟨rfl, hq⟩
      have hq2 := hq.symm
      subst hq2
      clear hq hx
      go_wp2_with fail
      first | exact HF | (go_ret2; exact HF)
    · have hrw : rowO (m : Int) o = ((bs.drop j).take N, some (bs.drop (j + N))) := by rw [hrow, if_neg hlt, List.drop_drop]
      have hd : decide ((L : Int) - (j : Int) < (N : Int)) = false := by simp; omega
      have hw1 : IntKind.i64.wrap ((L : Int) - (j : Int)) = (L : Int) - (j : Int) := by rw [IntKind.wrap_i64]; omega
      have hw2 : IntKind.i64.wrap ((j : Int) + (N : Int)) = ((j + N : Nat) : Int) := by rw [IntKind.wrap_i64]; omega
      have hjN : j + N ≤ bs.length := by rw [← hL]; omega
      have hpc := row_piece hr (by rw [← hL]; exact hc) j N hjN
      obtain ⟨ps, hps⟩ : ∃ ps, ps = (bs.drop j).take N := ⟨_, rfl⟩
      have hpl : ps.length = N := by rw [hps]; simp; omega
      obtain ⟨A, hA⟩ : ∃ A, (if cap = j then a else a.map (·.add j)) = A := ⟨_, rfl⟩
      rw [hA, ← hps] at hpc
      have hnA : A = none → ps.length = 0 ∧ cap - j = 0 := fun e => by
        have : a = none := by
          rw [← hA] at e
          split at e
          · exact e
          · simpa using e
        have := hnil this
        omega
      obtain ⟨J, hJ⟩ : ∃ J, J = j + N := ⟨_, rfl⟩
      have HFin : Hid (∀ v w', OwnB w' w.heap.size v ps → Below w.heap.size w w' → Q (.returned (.tuple #[v, .int .i64 (J : Int)])) w') := fun v w' h1 h2 => by
        have := HGd.out v w' ps (bs.drop (j + N)) (by rw [hrw, hps]) h1 h2
        rw [curs_at bs hjN, ← hJ] at this
        exact this
      rw [← hJ] at hw2
      have hJc : J ≤ cap := by omega
      have hjJ : j ≤ J := by omega
      have hJN : Hid (J - j = N) := by unfold Hid; omega
      have hpl' := hide_it hpl
      clear hbad HGd hno hrow hrw hlen hr hps hjN hJ hL hEnd hpl hnil
      go_enter Try.func40, Try.ntmps40
      go_wp2_with fail
      refine hx.mono ?_
      rintro e w1 ⟨rfl, hq⟩
      have hq2 := hq.symm
      subst hq2
      clear hq hx
      go_wp2_with (at_builtin; refine wpList_append_row _ rfl _ _ rfl w.heap.size _ [] rfl (World.ownsRow_nil _ _ _ _) A (cap - j) ps (by rw [hpl'.out, ← hJN.out]; rfl) hpc hnA (by have := hpl'.out; simp; omega) (Nat.le_refl _) ?_; intro v7 w7 hown7 hg7 hat7)
      have hend := HFin.out v7 w7 (by rw [List.nil_append] at hown7; exact hown7) ((Below.refl _ _).grown hg7 (Nat.le_refl _) (fun j e => by cases e))
      first | exact hend | (go_ret2; exact hend)
end Go.Proofs.Ytlhlpofmeeiffab
