/- Logs as mathematics: frames of entries, what bytes tell; what Write and Group do to an area. -/
import Derived.Test.YtkacfpmninmjkaaGreatFm3
import Derived.Test.YtkacfpmninmjkaaGreatEe1
import Derived.Test.YtkacfpmninmjkaaGreatPu8
namespace Go.Proofs.YtkacfpmninmjkaaGreat
open Go.RowKit

theorem encE_len {x : En} (h : mayE x = true) : (encE x).length ≤ 4393 := by
  have M := may_parts h
  have hK : (eK x.kind x.key).length ≤ 265 := by
    unfold eK
    split
    · next e =>
      have h1 := M.key1 e
      have h2 := shortL_ten (f := 2 * x.key.size) (by unfold W64; omega)
      have h3 : (strNat x.key).length = x.key.size := strNat_len _
      rw [List.length_append]; omega
    · simp
  have hS : (eS x.kind x.stamp).length ≤ 10 := by
    unfold eS
    split
    · next e =>
      have h1 := M.st1 e
      exact shortL_ten (foldI_64 (by omega) (by omega))
    · simp
  have hC : (eC x.kind x.count).length ≤ 10 := by
    unfold eC
    split
    · next e =>
      have h1 := M.ct1 e
      exact shortL_ten (foldI_64 (by omega) (by omega))
    · simp
  have hD : (eD x.kind x.dead).length ≤ 1 := by
    unfold eD
    split
    · simp
    · simp
  have hV : (eV x.kind x.val).length ≤ 4106 := by
    unfold eV
    split
    · next e =>
      have h1 := M.val
      have h2 := shortL_ten (f := 2 * x.val.length) (by unfold W64; omega)
      rw [List.length_append]; omega
    · simp
  unfold encE
  rw [List.length_cons, List.length_append, List.length_append, List.length_append, List.length_append]
  omega

/-- An entry's frame; the bytes of entries. -/
def frE (x : En) : List Nat := frm (encE x)
def bysE : List En → List Nat
  | [] => []
  | x :: t => frE x ++ bysE t
/-- The entries that frames tell, and where each ends. -/
def entF : List (Nat × List Nat) → List (En × Nat)
  | [] => []
  | y :: t => match decE y.2 with
    | none => []
    | some x => (x, y.1) :: entF t
/-- What bytes tell, the first one being at place e. -/
def lgF (e : Nat) (bs : List Nat) : List (En × Nat) := entF (frsF bs.length e bs)
/-- Entries one behind the other, and where each ends. -/
def endsE (e : Nat) : List En → List (En × Nat)
  | [] => []
  | x :: t => (x, e + (frE x).length) :: endsE (e + (frE x).length) t
/-- An entry that may be, of bytes. -/
def OkE (x : En) : Prop := mayE x = true ∧ All8 x.val

theorem lgF_frs (bs : List Nat) : lgF 0 bs = entF (frs bs) := by
  unfold lgF frs frsAt
  rw [Nat.sub_zero, List.drop_zero]
theorem lgF_stop {e c : Nat} {bs : List Nat} (h : rdF bs = .error c) : lgF e bs = [] := by
  unfold lgF
  cases hf : bs.length with
  | zero => rfl
  | succ f => unfold frsF; rw [h]; rfl
theorem lgF_step {e n : Nat} {bs : List Nat} (h : rdF bs = .ok n) : lgF e bs = match decE ((bs.drop 5).take n) with
    | none => []
    | some x => (x, e + (n + 9)) :: lgF (e + (n + 9)) (bs.drop (n + 9)) := by
  obtain ⟨_, _, _, h3, _⟩ := rdF_ok h
  unfold lgF
  cases hf : bs.length with
  | zero => omega
  | succ f =>
    conv => lhs; unfold frsF
    rw [h]
    simp only [entF]
    rw [frsF_fuel f (bs.drop (n + 9)).length _ _ (by simp; omega) (by simp)]
theorem frE_len {x : En} (h : mayE x = true) : (frE x).length = (encE x).length + 9 ∧ (frE x).length ≤ 4402 := by
  have := encE_len h
  unfold frE
  rw [frm_len]
  omega
theorem frE_all {x : En} (h : OkE x) : All8 (frE x) := frm_all (encE_all h.1 h.2)
theorem frE_mark (x : En) (t : List Nat) : at0 (frE x ++ t) 0 = 197 := rfl
theorem lgF_frame {x : En} (h : OkE x) (e : Nat) (t : List Nat) : lgF e (frE x ++ t) = (x, e + (frE x).length) :: lgF (e + (frE x).length) t := by
  have hl := encE_len h.1
  have hr := rdF_back (encE_all h.1 h.2) (by omega) t
  rw [lgF_step (bs := frE x ++ t) hr]
  have h1 : ((frE x ++ t).drop 5).take (encE x).length = encE x := pay_back _ _
  have h2 : (frE x ++ t).drop ((encE x).length + 9) = t := by
    rw [← frm_len]; exact List.drop_left
  have h3 : (frE x).length = (encE x).length + 9 := frm_len _
  rw [h1, dec_back h.1, h2, h3]
theorem bysE_append (xs ys : List En) : bysE (xs ++ ys) = bysE xs ++ bysE ys := by
  induction xs with
  | nil => rfl
  | cons x r ih => simp only [List.cons_append, bysE, ih, List.append_assoc]
theorem bysE_one (x : En) : bysE [x] = frE x := by simp [bysE]
theorem bysE_all {xs : List En} (h : ∀ x ∈ xs, OkE x) : All8 (bysE xs) := by
  induction xs with
  | nil => intro z hz; cases hz
  | cons x r ih => exact (frE_all (h x (by simp))).append (ih fun y hy => h y (by simp [hy]))
theorem bysE_len {xs : List En} (h : ∀ x ∈ xs, OkE x) : (bysE xs).length ≤ 4402 * xs.length := by
  induction xs with
  | nil => simp [bysE]
  | cons x r ih =>
    have h1 := (frE_len (h x (by simp)).1).2
    have h2 := ih fun y hy => h y (by simp [hy])
    simp only [bysE, List.length_append, List.length_cons]
    omega
theorem bysE_nil {xs : List En} (h : (bysE xs).length = 0) : xs = [] := by
  cases xs with
  | nil => rfl
  | cons x r =>
    have : (frE x).length = (encE x).length + 9 := frm_len _
    simp only [bysE, List.length_append] at h
    omega
/-- What stands ahead of other bytes is told. -/
theorem lgF_many {xs : List En} (h : ∀ x ∈ xs, OkE x) : ∀ (e : Nat) (t : List Nat), lgF e (bysE xs ++ t) = endsE e xs ++ lgF (e + (bysE xs).length) t := by
  induction xs with
  | nil => intro e t; simp [bysE, endsE]
  | cons x r ih =>
    intro e t
    have := ih (fun y hy => h y (by simp [hy])) (e + (frE x).length) t
    simp only [bysE, endsE, List.append_assoc, List.cons_append]
    rw [lgF_frame (h x (by simp)), this, List.length_append, Nat.add_assoc]
theorem lgF_nil (e : Nat) : lgF e [] = [] := rfl
theorem lgF_all {xs : List En} (h : ∀ x ∈ xs, OkE x) (e : Nat) : lgF e (bysE xs) = endsE e xs := by
  have := lgF_many h e []
  rwa [List.append_nil, lgF_nil, List.append_nil] at this
theorem endsE_append (e : Nat) (xs ys : List En) : endsE e (xs ++ ys) = endsE e xs ++ endsE (e + (bysE xs).length) ys := by
  induction xs generalizing e with
  | nil => simp [endsE, bysE]
  | cons x r ih =>
    simp only [List.cons_append, endsE, ih, bysE, List.length_append, Nat.add_assoc]
theorem endsE_len (e : Nat) (xs : List En) : (endsE e xs).length = xs.length := by
  induction xs generalizing e with
  | nil => rfl
  | cons x r ih => simp [endsE, ih]
theorem endsE_fst (e : Nat) (xs : List En) : (endsE e xs).map Prod.fst = xs := by
  induction xs generalizing e with
  | nil => rfl
  | cons x r ih => simp [endsE, ih]
theorem endsE_get (e : Nat) {xs : List En} {i : Nat} (hi : i < xs.length) : (endsE e xs)[i]? = some (xs[i], e + (bysE (xs.take (i + 1))).length) := by
  induction xs generalizing e i with
  | nil => simp at hi
  | cons x r ih =>
    cases i with
    | zero => simp [endsE, bysE]
    | succ i =>
      have hi' : i < r.length := by simpa using hi
      simp only [endsE, List.getElem?_cons_succ, List.getElem_cons_succ, List.take_succ_cons, bysE, List.length_append]
      rw [ih _ hi', Nat.add_assoc]
/-- Where they begin is where each of them ends, less. -/
theorem endsE_shift (e d : Nat) (xs : List En) : endsE (e + d) xs = (endsE e xs).map fun y => (y.1, y.2 + d) := by
  induction xs generalizing e with
  | nil => rfl
  | cons x r ih =>
    simp only [endsE, List.map_cons]
    rw [← ih, show e + d + (frE x).length = e + (frE x).length + d by omega]
/-- Bytes the first of which is no mark tell nothing. -/
theorem lgF_junk {e : Nat} {bs : List Nat} (h : at0 bs 0 ≠ 197) : lgF e bs = [] := by
  by_cases h0 : bs.length = 0
  · have : bs = [] := List.eq_nil_of_length_eq_zero h0
    subst this; rfl
  · exact lgF_stop (c := 90) (by unfold rdF; rw [if_neg h0, if_pos h])
theorem lgF_few (e : Nat) (bs : List Nat) : 9 * (lgF e bs).length ≤ bs.length := by
  have key : ∀ l : List (Nat × List Nat), (entF l).length ≤ l.length := by
    intro l
    induction l with
    | nil => simp [entF]
    | cons y t ih =>
      unfold entF
      split
      · simp
      · simp; omega
  have h1 := frs_few bs.length e bs
  have h2 := key (frsF bs.length e bs)
  unfold lgF
  omega

/-- What Write does to an area. -/
def wrX (am : Bool) (x : Pt) : List En → Int × Pt
  | [] => (0, x)
  | e :: t => if mayE e = true then (if down am x = true then (80, x) else wrX am { x with bs := x.bs ++ frE e, c := x.c + 1 } t) else (100, x)
/-- What Group does to an area. -/
def grX (am : Bool) (x : Pt) (es : List En) : Int × Pt :=
  if es.all mayE = true then (if (wrX am x es).1 = 0 then opS am (wrX am x es).2 1 0 [] else wrX am x es) else (100, x)

end Go.Proofs.YtkacfpmninmjkaaGreat
