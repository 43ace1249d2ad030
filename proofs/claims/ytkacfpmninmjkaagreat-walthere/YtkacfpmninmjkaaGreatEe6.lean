/- Encode of every entry; what the program's reader makes of bytes, as mathematics. -/
import Derived.Test.YtkacfpmninmjkaaGreatEe5
namespace Go.Proofs.YtkacfpmninmjkaaGreat
open Go.RowKit

theorem encode_any (x : En) (a : Option Addr) (cp : Nat) (w : World) (hr : RowB w a x.val) (hnil : a = none → x.val.length = 0 ∧ cp = 0) :
    Calls Tryz.prog 77 #[valE x a cp] w fun e w' => EncTo w x e w' := by
  cases hm : mayE x
  · exact encode_no x a cp w hm
  · have M := may_parts hm
    obtain ⟨h1, h2⟩ := M.kind
    obtain ⟨kind, stamp, count, key, val, dead⟩ := x
    simp only at h1 h2 hr hnil
    rcases kind_cases kind with rfl | rfl | rfl | rfl | rfl | rfl | h
    · exact encode_1 stamp count key val dead a cp w hm hr hnil
    · exact encode_2 stamp count key val dead a cp w hm hr hnil
    · exact encode_3 stamp count key val dead a cp w hm hr hnil
    · exact encode_4 stamp count key val dead a cp w hm hr hnil
    · exact encode_5 stamp count key val dead a cp w hm hr hnil
    · exact encode_6 stamp count key val dead a cp w hm hr hnil
    · exact absurd ⟨h1, h2⟩ h

/-- What the reader makes of the fields. -/
def rK (k : Int) (s : List Nat × Nat) : List Nat × (List Nat × Nat) := if hk k then rdOf [] (takeCounted 255) s else ([], s)
def rS (k : Int) (s : List Nat × Nat) : Int × (List Nat × Nat) := if hs k then rdOf 0 (takeShort 0 4611686018427387904) s else (0, s)
def rC (k : Int) (s : List Nat × Nat) : Int × (List Nat × Nat) := if hc k then rdOf 0 (takeShort 0 2147483647) s else (0, s)
def rD (k : Int) (s : List Nat × Nat) : Nat × (List Nat × Nat) := if hd k then rdOf 0 (takeFixed 1) s else (0, s)
def rV (k : Int) (s : List Nat × Nat) : List Nat × (List Nat × Nat) := if hv k then rdOf [] (takeCounted 4096) s else ([], s)
/-- What the program's take answers behind the kind: the entry, whether Dead is whole, the reader. -/
def tkE (k : Int) (s : List Nat × Nat) : (En × Bool) × (List Nat × Nat) :=
  ((⟨k, (rS k (rK k s).2).1, (rC k (rS k (rK k s).2).2).1, strOf (rK k s).1, (rV k (rD k (rC k (rS k (rK k s).2).2).2).2).1, (rD k (rC k (rS k (rK k s).2).2).2).1 == 1⟩,
    decide ((rD k (rC k (rS k (rK k s).2).2).2).1 ≤ 1)), (rV k (rD k (rC k (rS k (rK k s).2).2).2).2).2)

theorem rdOf_bad {A : Type} {zero : A} {take : List Nat → Except Nat (A × List Nat)} {s : List Nat × Nat} (h : s.2 ≠ 0) : rdOf zero take s = (zero, s) := if_pos h
theorem rdOf_ok {A : Type} {zero : A} {take : List Nat → Except Nat (A × List Nat)} {t u : List Nat} {x : A} (h : take t = .ok (x, u)) : rdOf zero take (t, 0) = (x, (u, 0)) := by
  unfold rdOf; rw [if_neg (by simp), h]
theorem rdOf_err {A : Type} {zero : A} {take : List Nat → Except Nat (A × List Nat)} {t : List Nat} {c : Nat} (h : take t = .error c) : rdOf zero take (t, 0) = (zero, (t, c)) := by
  unfold rdOf; rw [if_neg (by simp), h]

theorem rV_bad {k : Int} {s : List Nat × Nat} (h : s.2 ≠ 0) : (rV k s).2.2 ≠ 0 := by
  unfold rV; split
  · rw [rdOf_bad h]; exact h
  · exact h
theorem rD_bad {k : Int} {s : List Nat × Nat} (h : s.2 ≠ 0) : (rD k s).2.2 ≠ 0 := by
  unfold rD; split
  · rw [rdOf_bad h]; exact h
  · exact h
theorem rC_bad {k : Int} {s : List Nat × Nat} (h : s.2 ≠ 0) : (rC k s).2.2 ≠ 0 := by
  unfold rC; split
  · rw [rdOf_bad h]; exact h
  · exact h
theorem rS_bad {k : Int} {s : List Nat × Nat} (h : s.2 ≠ 0) : (rS k s).2.2 ≠ 0 := by
  unfold rS; split
  · rw [rdOf_bad h]; exact h
  · exact h
theorem rK_bad {k : Int} {s : List Nat × Nat} (h : s.2 ≠ 0) : (rK k s).2.2 ≠ 0 := by
  unfold rK; split
  · rw [rdOf_bad h]; exact h
  · exact h

theorem rK_way (k : Int) (t : List Nat) : (∃ p u, rK k (t, 0) = (p, (u, 0)) ∧ tK k t = some (strOf p, u)) ∨ ((rK k (t, 0)).2.2 ≠ 0 ∧ tK k t = none) := by
  unfold rK tK
  cases hk k
  · exact .inl ⟨[], t, rfl, rfl⟩
  · simp only [if_true]
    cases e : takeCounted 255 t with
    | error c => exact .inr ⟨by rw [rdOf_err e]; exact counted_err e, rfl⟩
    | ok x => obtain ⟨p, u⟩ := x; exact .inl ⟨p, u, rdOf_ok e, rfl⟩
theorem rS_way (k : Int) (t : List Nat) : (∃ p u, rS k (t, 0) = (p, (u, 0)) ∧ tS k t = some (p, u)) ∨ ((rS k (t, 0)).2.2 ≠ 0 ∧ tS k t = none) := by
  unfold rS tS
  cases hs k
  · exact .inl ⟨0, t, rfl, rfl⟩
  · simp only [if_true]
    cases e : takeShort 0 4611686018427387904 t with
    | error c => exact .inr ⟨by rw [rdOf_err e]; exact short_err e, rfl⟩
    | ok x => obtain ⟨p, u⟩ := x; exact .inl ⟨p, u, rdOf_ok e, rfl⟩
theorem rC_way (k : Int) (t : List Nat) : (∃ p u, rC k (t, 0) = (p, (u, 0)) ∧ tC k t = some (p, u)) ∨ ((rC k (t, 0)).2.2 ≠ 0 ∧ tC k t = none) := by
  unfold rC tC
  cases hc k
  · exact .inl ⟨0, t, rfl, rfl⟩
  · simp only [if_true]
    cases e : takeShort 0 2147483647 t with
    | error c => exact .inr ⟨by rw [rdOf_err e]; exact short_err e, rfl⟩
    | ok x => obtain ⟨p, u⟩ := x; exact .inl ⟨p, u, rdOf_ok e, rfl⟩
theorem rV_way (k : Int) (t : List Nat) : (∃ p u, rV k (t, 0) = (p, (u, 0)) ∧ tV k t = some (p, u)) ∨ ((rV k (t, 0)).2.2 ≠ 0 ∧ tV k t = none) := by
  unfold rV tV
  cases hv k
  · exact .inl ⟨[], t, rfl, rfl⟩
  · simp only [if_true]
    cases e : takeCounted 4096 t with
    | error c => exact .inr ⟨by rw [rdOf_err e]; exact counted_err e, rfl⟩
    | ok x => obtain ⟨p, u⟩ := x; exact .inl ⟨p, u, rdOf_ok e, rfl⟩
theorem fixed_one (x : Nat) (t : List Nat) : takeFixed 1 (x :: t) = .ok (x, t) := by
  unfold takeFixed
  rw [if_neg (by simp)]
  simp [beVal]
theorem rD_way (k : Int) (t : List Nat) : (∃ p u, rD k (t, 0) = (p, (u, 0)) ∧ tD k t = if p ≤ 1 then some (p == 1, u) else none) ∨ ((rD k (t, 0)).2.2 ≠ 0 ∧ tD k t = none) := by
  unfold rD tD
  cases hd k
  · exact .inl ⟨0, t, rfl, rfl⟩
  · simp only [if_true]
    cases t with
    | nil => exact .inr ⟨by rw [rdOf_err (c := 20) rfl]; decide, rfl⟩
    | cons x u => exact .inl ⟨x, u, rdOf_ok (fixed_one x u), rfl⟩

/-- What Decode answers of the program's reading. -/
def decP (k : Int) (s : List Nat × Nat) : Option En :=
  if (tkE k s).1.2 = true ∧ endOf (tkE k s).2.1 (tkE k s).2.2 = 0 ∧ mayE (tkE k s).1.1 = true then some (tkE k s).1.1 else none
theorem endOf_bad {l : List Nat} {f : Nat} (h : f ≠ 0) : endOf l f ≠ 0 := by
  unfold endOf; rw [if_pos h]; exact h
theorem decP_bad {k : Int} {s : List Nat × Nat} (h : (tkE k s).2.2 ≠ 0) : decP k s = none := by
  unfold decP; rw [if_neg]; rintro ⟨_, h2, _⟩; exact endOf_bad h h2

theorem decP_cons (k : Nat) (t : List Nat) : decP (k : Int) (t, 0) = decE (k :: t) := by
  have hE : decE (k :: t) = match parE (k :: t) with | some (x, []) => if mayE x then some x else none | _ => none := rfl
  rw [hE]
  simp only [parE]
  rcases rK_way k t with ⟨p1, u1, e1, f1⟩ | ⟨e1, f1⟩
  rotate_left 1
  · rw [f1]; exact decP_bad (rV_bad (rD_bad (rC_bad (rS_bad e1))))
  rcases rS_way k u1 with ⟨p2, u2, e2, f2⟩ | ⟨e2, f2⟩
  rotate_left 1
  · rw [f1]; simp only []; rw [f2]; exact decP_bad (rV_bad (rD_bad (rC_bad (by rw [e1]; exact e2))))
  rcases rC_way k u2 with ⟨p3, u3, e3, f3⟩ | ⟨e3, f3⟩
  rotate_left 1
  · rw [f1]; simp only []; rw [f2]; simp only []; rw [f3]; exact decP_bad (rV_bad (rD_bad (by rw [e1]; simp only []; rw [e2]; exact e3)))
  rcases rD_way k u3 with ⟨p4, u4, e4, f4⟩ | ⟨e4, f4⟩
  rotate_left 1
  · rw [f1]; simp only []; rw [f2]; simp only []; rw [f3]; simp only []; rw [f4]; exact decP_bad (rV_bad (by rw [e1]; simp only []; rw [e2]; simp only []; rw [e3]; exact e4))
  rw [f1]; simp only []; rw [f2]; simp only []; rw [f3]; simp only []; rw [f4]
  have ht : tkE (k : Int) (t, 0) = ((⟨k, p2, p3, strOf p1, (rV k (u4, 0)).1, p4 == 1⟩, decide (p4 ≤ 1)), (rV k (u4, 0)).2) := by
    unfold tkE
    rw [e1]; simp only []; rw [e2]; simp only []; rw [e3]; simp only []; rw [e4]
  by_cases h4 : p4 ≤ 1
  rotate_left 1
  · rw [if_neg h4]
    unfold decP
    rw [ht, if_neg]
    rintro ⟨h1, _⟩
    exact h4 (of_decide_eq_true h1)
  rw [if_pos h4]
  simp only []
  rcases rV_way k u4 with ⟨p5, u5, e5, f5⟩ | ⟨e5, f5⟩
  rotate_left 1
  · rw [f5]; exact decP_bad (by rw [ht]; exact e5)
  rw [f5]
  simp only []
  rw [e5] at ht
  unfold decP
  rw [ht]
  cases u5 with
  | nil =>
    have h0 : endOf [] 0 = 0 := rfl
    simp only [h0, decide_eq_true h4, true_and]
  | cons z u =>
    have h0 : endOf (z :: u) 0 ≠ 0 := by unfold endOf; rw [if_neg (by simp)]; simp
    rw [if_neg]
    rintro ⟨_, h, _⟩
    exact h0 h
theorem tkE_nil : (tkE 0 ([], 20)).2.2 ≠ 0 := by decide
/-- The kind that is read, the reader behind it. -/
theorem dec_first (bs : List Nat) : decP ((rdOf 0 (takeFixed 1) (bs, 0)).1 : Int) (rdOf 0 (takeFixed 1) (bs, 0)).2 = decE bs := by
  cases bs with
  | nil => rw [rdOf_err (c := 20) rfl]; exact decP_bad tkE_nil
  | cons k t => rw [rdOf_ok (fixed_one k t)]; exact decP_cons k t
end Go.Proofs.YtkacfpmninmjkaaGreat
