/- What the document's Decode reads, field by field; what its walk knows. -/
import Derived.Test.YtlhlpofmeeiffabEi2
namespace Go.Proofs.Ytlhlpofmeeiffab
open Go.RowKit

def dK (k : Int) (o : Option (List Nat)) : List Nat × Option (List Nat) := if hk k then rowO 255 o else ([], o)
def dS (k : Int) (o : Option (List Nat)) : Int × Option (List Nat) := if hs k then numO 4611686018427387904 o else (0, o)
def dC (k : Int) (o : Option (List Nat)) : Int × Option (List Nat) := if hc k then numO 2147483647 o else (0, o)
def dD (k : Int) (o : Option (List Nat)) : Option (Bool × Option (List Nat)) :=
  if hd k then (match o with | none => some (false, none) | some [] => none | some (x :: u) => if x ≤ 1 then some (x == 1, some u) else none) else some (false, o)
def dV (k : Int) (o : Option (List Nat)) : List Nat × Option (List Nat) := if hv k then rowO 4096 o else ([], o)

theorem dK_way (k : Int) (t : List Nat) : (∃ p u, dK k (some t) = (p, some u) ∧ tK k t = some (strOf p, u)) ∨ ((dK k (some t)).2 = none ∧ tK k t = none) := by
  unfold dK tK
  cases hk k
  · exact .inl ⟨[], t, rfl, rfl⟩
  · simp only [if_true]
    unfold rowO
    cases h : takeCounted 255 t with
    | ok x => obtain ⟨p, u⟩ := x; exact .inl ⟨p, u, by simp [h], rfl⟩
    | error c => exact .inr ⟨by simp [h], rfl⟩
theorem dS_way (k : Int) (t : List Nat) : (∃ p u, dS k (some t) = (p, some u) ∧ tS k t = some (p, u)) ∨ ((dS k (some t)).2 = none ∧ tS k t = none) := by
  unfold dS tS
  cases hs k
  · exact .inl ⟨0, t, rfl, rfl⟩
  · simp only [if_true]
    unfold numO
    cases h : takeShort 0 4611686018427387904 t with
    | ok x => obtain ⟨p, u⟩ := x; exact .inl ⟨p, u, by simp [h], rfl⟩
    | error c => exact .inr ⟨by simp [h], rfl⟩
theorem dC_way (k : Int) (t : List Nat) : (∃ p u, dC k (some t) = (p, some u) ∧ tC k t = some (p, u)) ∨ ((dC k (some t)).2 = none ∧ tC k t = none) := by
  unfold dC tC
  cases hc k
  · exact .inl ⟨0, t, rfl, rfl⟩
  · simp only [if_true]
    unfold numO
    cases h : takeShort 0 2147483647 t with
    | ok x => obtain ⟨p, u⟩ := x; exact .inl ⟨p, u, by simp [h], rfl⟩
    | error c => exact .inr ⟨by simp [h], rfl⟩
theorem dV_way (k : Int) (t : List Nat) : (∃ p u, dV k (some t) = (p, some u) ∧ tV k t = some (p, u)) ∨ ((dV k (some t)).2 = none ∧ tV k t = none) := by
  unfold dV tV
  cases hv k
  · exact .inl ⟨[], t, rfl, rfl⟩
  · simp only [if_true]
    unfold rowO
    cases h : takeCounted 4096 t with
    | ok x => obtain ⟨p, u⟩ := x; exact .inl ⟨p, u, by simp [h], rfl⟩
    | error c => exact .inr ⟨by simp [h], rfl⟩
theorem dD_some (k : Int) (t : List Nat) : dD k (some t) = (tD k t).map fun r => (r.1, some r.2) := by
  unfold dD tD
  cases hd k
  · rfl
  · simp only [if_true]
    cases t with
    | nil => rfl
    | cons x u =>
      simp only []
      by_cases h : x ≤ 1
      · rw [if_pos h, if_pos h]; rfl
      · rw [if_neg h, if_neg h]; rfl
theorem dS_none (k : Int) : (dS k none).2 = none := by unfold dS; cases hs k <;> rfl
theorem dC_none (k : Int) : (dC k none).2 = none := by unfold dC; cases hc k <;> rfl
theorem dD_none (k : Int) : dD k none = some (false, none) := by unfold dD; cases hd k <;> rfl
theorem dV_none (k : Int) : (dV k none).2 = none := by unfold dV; cases hv k <;> rfl

/-- What is read, of a kind and what is left behind each field. -/
theorem doc_bad1 {k : Nat} {t : List Nat} (h : (dK (k : Int) (some t)).2 = none) : decE (k :: t) = none := by
  rcases dK_way (k : Int) t with ⟨p, u, e, _⟩ | ⟨_, e⟩
  · rw [e] at h; cases h
  · unfold decE; simp only [parE, e]

/-- The document's answer, put together. -/
def docE (k : Int) (t : List Nat) : Option En :=
  match dD k (dC k (dS k (dK k (some t)).2).2).2 with
  | none => none
  | some (d, o4) =>
    if (dV k o4).2 = some [] ∧ mayE ⟨k, (dS k (dK k (some t)).2).1, (dC k (dS k (dK k (some t)).2).2).1, strOf (dK k (some t)).1, (dV k o4).1, d⟩ = true then
      some ⟨k, (dS k (dK k (some t)).2).1, (dC k (dS k (dK k (some t)).2).2).1, strOf (dK k (some t)).1, (dV k o4).1, d⟩ else none
theorem doc_dec (k : Nat) (t : List Nat) : docE (k : Int) t = decE (k :: t) := by
  unfold docE decE
  simp only [parE]
  rcases dK_way (k : Int) t with ⟨p1, u1, e1, f1⟩ | ⟨e1, f1⟩
  · simp only [e1, f1]
    rcases dS_way (k : Int) u1 with ⟨p2, u2, e2, f2⟩ | ⟨e2, f2⟩
    · simp only [e2, f2]
      rcases dC_way (k : Int) u2 with ⟨p3, u3, e3, f3⟩ | ⟨e3, f3⟩
      · simp only [e3, f3, dD_some]
        cases f4 : tD (k : Int) u3 with
        | none => rfl
        | some r =>
          obtain ⟨d, u4⟩ := r
          simp only [Option.map_some]
          rcases dV_way (k : Int) u4 with ⟨p5, u5, e5, f5⟩ | ⟨e5, f5⟩
          · simp only [e5, f5]
            cases u5 with
            | nil => simp only [true_and]
            | cons z u5 => rw [if_neg (by rintro ⟨h, _⟩; cases h)]
          · simp only [f5]
            rw [if_neg (by rw [e5]; rintro ⟨h, _⟩; cases h)]
      · simp only [e3, f3, dD_none]
        rw [if_neg (by rw [dV_none]; rintro ⟨h, _⟩; cases h)]
    · simp only [e2, f2, dC_none, dD_none]
      rw [if_neg (by rw [dV_none]; rintro ⟨h, _⟩; cases h)]
  · simp only [e1, f1, dS_none, dC_none, dD_none]
    rw [if_neg (by rw [dV_none]; rintro ⟨h, _⟩; cases h)]

theorem curs_end {bs : List Nat} {o : Option (List Nat)} (h : EndO bs o) : (curs bs o == (bs.length : Int)) = decide (o = some []) := by
  cases o with
  | none =>
    rw [decide_eq_false (by simp), beq_eq_false_iff_ne]
    show ¬ (-1 : Int) = (bs.length : Int)
    omega
  | some t =>
    obtain ⟨j, hj, rfl⟩ := h t rfl
    unfold curs
    simp only [List.length_drop]
    by_cases he : j = bs.length
    · rw [decide_eq_true (by rw [List.drop_eq_nil_of_le (by omega)])]; rw [beq_iff_eq]; omega
    · rw [decide_eq_false (by intro h; have := congrArg (fun o => (o.getD [0]).length) h; simp at this; omega)]; rw [beq_eq_false_iff_ne]; omega

/-- What a walk of the document's Decode knows: the answer's box, the entry so far, what was made. -/
structure RdS (w0 w : World) (x : En) : Prop where
  res : BoxN w w0.heap.size zeroEn none 0
  box : BoxN w (w0.heap.size + 1) x none 0
  bel : Below w0.heap.size w0 w
theorem RdS.below {w0 w w' : World} {x : En} (h : RdS w0 w x) (hb : Below w.heap.size w w') : RdS w0 w' x :=
  ⟨h.res.under hb h.res.lt, h.box.under hb h.box.lt, h.bel.trans (hb.mono h.bel.size)⟩
theorem RdS.put {w0 w : World} {x x' : En} (h : RdS w0 w x) (j : Nat) (v : Value) (hx : BoxN (w.setCell ⟨w0.heap.size + 1, j, none⟩ v) (w0.heap.size + 1) x' none 0) : RdS w0 (w.setCell ⟨w0.heap.size + 1, j, none⟩ v) x' :=
  ⟨h.res.far (by omega) j v, hx, h.bel.setCell (Nat.le_succ _) v⟩
theorem RdS.setS {w0 w : World} {x : En} (h : RdS w0 w x) (n : Int) : RdS w0 (w.setCell ⟨w0.heap.size + 1, 1, none⟩ (.int .i64 n)) { x with stamp := n } := by
  refine h.put 1 _ ?_
  unfold BoxN
  rw [heap_setCell_same w _ 1 _ _ _ h.box]; rfl
theorem RdS.setC {w0 w : World} {x : En} (h : RdS w0 w x) (n : Int) : RdS w0 (w.setCell ⟨w0.heap.size + 1, 2, none⟩ (.int .i64 n)) { x with count := n } := by
  refine h.put 2 _ ?_
  unfold BoxN
  rw [heap_setCell_same w _ 2 _ _ _ h.box]; rfl
theorem RdS.setK {w0 w : World} {x : En} (h : RdS w0 w x) (t : ByteArray) : RdS w0 (w.setCell ⟨w0.heap.size + 1, 3, none⟩ (.string t)) { x with key := t } := by
  refine h.put 3 _ ?_
  unfold BoxN
  rw [heap_setCell_same w _ 3 _ _ _ h.box]; rfl
theorem RdS.setD {w0 w : World} {x : En} (h : RdS w0 w x) (d : Bool) : RdS w0 (w.setCell ⟨w0.heap.size + 1, 5, none⟩ (.bool d)) { x with dead := d } := by
  refine h.put 5 _ ?_
  unfold BoxN
  rw [heap_setCell_same w _ 5 _ _ _ h.box]; rfl
/-- With no value: what the end knows. -/
theorem RdS.noVal {w0 w : World} {x : En} (h : RdS w0 w x) (hv : x.val = []) : DcS w0 w (w0.heap.size + 1) x none 0 :=
  ⟨h.res, h.box, by rw [hv]; exact World.ownsRow_nil _ _ _ _, h.bel⟩
/-- With a value. -/
theorem RdS.setV {w0 w w' : World} {x : En} (h : RdS w0 w x) (hb : Below w.heap.size w w') (zs : List Nat) (a : Option Addr) (c : Nat) (hown : OwnB w' w.heap.size (.slice a zs.length c) zs) :
    DcS w0 (w'.setCell ⟨w0.heap.size + 1, 4, none⟩ (.slice a zs.length c)) (w0.heap.size + 1) { x with val := zs } a c := by
  have h' := h.below hb
  have hlt : w0.heap.size + 1 < w.heap.size := h.box.lt
  refine ⟨h'.res.far (by omega) 4 _, ?_, (hown.set_old hlt 4 _).mono (by omega), h'.bel.setCell (Nat.le_succ _) _⟩
  unfold BoxN
  rw [heap_setCell_same w' _ 4 _ _ _ h'.box]; rfl
theorem RdS.start (w : World) (k : Int) : RdS w ((w.alloc (.cells #[.int .i64 0, .int .i64 0, .int .i64 0, .string ⟨#[]⟩, .slice none 0 0, .bool false] 24)).alloc (.cells #[.int .i64 k, .int .i64 0, .int .i64 0, .string ⟨#[]⟩, .slice none 0 0, .bool false] 24)) ⟨k, 0, 0, .empty, [], false⟩ := by
  refine ⟨(Below.heap_alloc _ _ _ (by simp)).trans (heap_alloc_new w _), ?_, ((Below.refl _ _).alloc (Nat.le_refl _) _).alloc (by simp) _⟩
  have e := heap_alloc_new (w.alloc (.cells #[.int .i64 0, .int .i64 0, .int .i64 0, .string ⟨#[]⟩, .slice none 0 0, .bool false] 24)) (.cells #[.int .i64 k, .int .i64 0, .int .i64 0, .string ⟨#[]⟩, .slice none 0 0, .bool false] 24)
  rw [World.size_alloc] at e
  exact e
end Go.Proofs.Ytlhlpofmeeiffab
