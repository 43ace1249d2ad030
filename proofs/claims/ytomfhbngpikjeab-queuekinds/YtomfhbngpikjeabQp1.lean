/- Queues of pairs: rings whose things take two cells; copy at things of two cells. -/
import Derived.Test.YtomfhbngpikjeabQu1
namespace Go.Proofs.Ytomfhbngpikjeab
open Go.RowKit

/-- The ring cur holds the things vs, the first one at f. -/
structure LaidP (cur : List (Int × Bool)) (f : Nat) (vs : List (Int × Bool)) : Prop where
  at_ : f < cur.length
  len : vs.length ≤ cur.length
  holds : ∀ i, i < vs.length → cur[(f + i) % cur.length]? = vs[i]?

theorem LaidP.push {cur : List (Int × Bool)} {f : Nat} {vs : List (Int × Bool)} (h : LaidP cur f vs) (hl : vs.length < cur.length) (x : Int × Bool) :
    LaidP (cur.set ((f + vs.length) % cur.length) x) f (vs ++ [x]) := by
  have hf := h.at_
  refine ⟨by simpa using hf, by simp; omega, fun i hi => ?_⟩
  have hm : (f + vs.length) % cur.length < cur.length := Nat.mod_lt _ (by omega)
  simp only [List.length_append, List.length_cons, List.length_nil] at hi
  rw [List.length_set]
  by_cases e : i = vs.length
  · subst e
    rw [List.getElem?_set_self hm, List.getElem?_append_right (Nat.le_refl _)]
    simp
  · have hne : (f + vs.length) % cur.length ≠ (f + i) % cur.length := by
      rw [wrap_mod hf hl, wrap_mod hf (by omega)]
      split <;> split <;> omega
    rw [List.getElem?_set_ne hne, List.getElem?_append_left (by omega)]
    exact h.holds i (by omega)

theorem LaidP.first {cur : List (Int × Bool)} {f : Nat} {v : Int × Bool} {vs : List (Int × Bool)} (h : LaidP cur f (v :: vs)) : cur[f]? = some v := by
  have := h.holds 0 (by simp)
  rwa [Nat.add_zero, Nat.mod_eq_of_lt h.at_] at this

theorem LaidP.pop {cur : List (Int × Bool)} {f : Nat} {v : Int × Bool} {vs : List (Int × Bool)} (h : LaidP cur f (v :: vs)) (z : Int × Bool) :
    LaidP (cur.set f z) ((f + 1) % cur.length) vs := by
  have hf := h.at_
  have hl := h.len
  simp only [List.length_cons] at hl
  have hm : (f + 1) % cur.length < cur.length := Nat.mod_lt _ (by omega)
  refine ⟨by simpa using hm, by simp; omega, fun i hi => ?_⟩
  rw [List.length_set]
  have e : ((f + 1) % cur.length + i) % cur.length = (f + (i + 1)) % cur.length := by
    rw [Nat.mod_add_mod]; congr 1; omega
  rw [e]
  have hne : f ≠ (f + (i + 1)) % cur.length := by
    rw [wrap_mod hf (by omega)]
    split <;> omega
  rw [List.getElem?_set_ne hne]
  have := h.holds (i + 1) (by simpa using hi)
  simpa using this

theorem LaidP.fresh (vs zs : List (Int × Bool)) (h : 0 < (vs ++ zs).length) : LaidP (vs ++ zs) 0 vs := by
  refine ⟨h, by simp, fun i hi => ?_⟩
  rw [Nat.zero_add, Nat.mod_eq_of_lt (by simp; omega), List.getElem?_append_left hi]

theorem LaidP.line1 {cur : List (Int × Bool)} {f : Nat} {vs : List (Int × Bool)} (h : LaidP cur f vs) {j : Nat} (hj : j < aheadN vs.length f cur.length) : cur[f + j]? = vs[j]? := by
  have h1 := aheadN_le vs.length f cur.length
  have h2 := aheadN_le' vs.length f cur.length
  have := h.holds j (by omega)
  rwa [Nat.mod_eq_of_lt (by omega)] at this
theorem LaidP.line2 {cur : List (Int × Bool)} {f : Nat} {vs : List (Int × Bool)} (h : LaidP cur f vs) {j : Nat} (hj : aheadN vs.length f cur.length + j < vs.length) : cur[j]? = vs[aheadN vs.length f cur.length + j]? := by
  have h3 := h.len
  have h4 := h.at_
  have h2 : aheadN vs.length f cur.length = cur.length - f := by unfold aheadN at hj ⊢; omega
  have := h.holds _ hj
  rw [h2] at this hj ⊢
  rw [wrap_mod h4 (by omega), if_neg (by omega)] at this
  rw [← this]
  congr 1
  omega

/-- The cells of pairs. -/
def cP (p : Int × Bool) : List Value := [.int .i64 p.1, .bool p.2]
def flP : List (Int × Bool) → List Value
  | [] => []
  | p :: xs => .int .i64 p.1 :: .bool p.2 :: flP xs
theorem flP_len : ∀ xs : List (Int × Bool), (flP xs).length = xs.length * 2
  | [] => rfl
  | p :: xs => by simp [flP, flP_len xs]; omega
theorem flP_append : ∀ xs ys : List (Int × Bool), flP (xs ++ ys) = flP xs ++ flP ys
  | [], ys => rfl
  | p :: xs, ys => by simp [flP, flP_append xs ys]
theorem flP_at : ∀ (xs : List (Int × Bool)) (i : Nat) (p : Int × Bool), xs[i]? = some p → (flP xs)[i * 2]? = some (.int .i64 p.1) ∧ (flP xs)[i * 2 + 1]? = some (.bool p.2)
  | [], i, p, h => by simp at h
  | q :: xs, 0, p, h => by
    simp only [List.getElem?_cons_zero, Option.some.injEq] at h
    subst h
    exact ⟨rfl, rfl⟩
  | q :: xs, i + 1, p, h => by
    have := flP_at xs i p (by simpa using h)
    rw [show (i + 1) * 2 = i * 2 + 1 + 1 by omega]
    simpa [flP] using this
theorem flP_set : ∀ (xs : List (Int × Bool)) (i : Nat) (p : Int × Bool), flP (xs.set i p) = ((flP xs).set (i * 2) (.int .i64 p.1)).set (i * 2 + 1) (.bool p.2)
  | [], i, p => by simp [flP]
  | q :: xs, 0, p => by simp [flP]
  | q :: xs, i + 1, p => by
    rw [show (i + 1) * 2 = i * 2 + 1 + 1 by omega]
    simp [flP, flP_set xs i p]
theorem flP_take : ∀ (xs : List (Int × Bool)) (k : Nat), flP (xs.take k) = (flP xs).take (k * 2)
  | [], k => by simp [flP]
  | q :: xs, 0 => by simp [flP]
  | q :: xs, k + 1 => by
    rw [show (k + 1) * 2 = k * 2 + 1 + 1 by omega]
    simp [flP, flP_take xs k]
theorem flP_drop : ∀ (xs : List (Int × Bool)) (k : Nat), flP (xs.drop k) = (flP xs).drop (k * 2)
  | [], k => by simp [flP]
  | q :: xs, 0 => by simp [flP]
  | q :: xs, k + 1 => by
    rw [show (k + 1) * 2 = k * 2 + 1 + 1 by omega]
    simp [flP, flP_drop xs k]
theorem flP_splice (Z X : List (Int × Bool)) (k : Nat) : flP (splice Z k X) = splice (flP Z) (k * 2) (flP X) := by
  unfold splice
  rw [flP_append, flP_append, flP_take, flP_drop, flP_len, Nat.add_mul]
theorem flP_one : ∀ (xs : List (Int × Bool)), ∀ v ∈ flP xs, v.oneCell' = true
  | [], v, h => by simp [flP] at h
  | q :: xs, v, h => by
    simp only [flP, List.mem_cons] at h
    rcases h with rfl | rfl | h
    · rfl
    · rfl
    · exact flP_one xs v h

theorem run_copy_nothingN {P : Program} (w : World) (dT sT ty elem : TypeId) (sz : Nat) (d a : Option Addr) (dLen dCap sLen sCap : Nat) (hu : P.underlying dT = some (.slice elem)) (hs : (P.info? elem).map (·.size) = some sz) (hn : Nat.min sLen dLen = 0) :
    (Builtin.copy_ #[dT, sT] ty #[.slice d dLen dCap, .slice a sLen sCap]).run P w = .ok (goInt 0) w := by
  cases hq : P.info? elem with
  | none => simp [hq] at hs
  | some i =>
    have hl : ∀ (x : Addr), (loadCells x 0).run P w = .ok #[] w := fun x => by simpa using run_loadCells_list (P := P) w x [] (by simp)
    cases d <;> cases a <;> simp [Builtin.copy_, run_underlying hu, Builtin.lenOf, Builtin.firstCells, sizeOf, typeInfo, hq, hn, storeCells, hl]

theorem run_copy_rowN {P : Program} (w : World) (dT sT ty elem : TypeId) (sz n : Nat) (g o dLen dCap : Nat) (a : Addr) (sLen sCap : Nat) (cur : Array Value) (t : TypeId) (cs : List Value)
    (hu : P.underlying dT = some (.slice elem)) (hs : (P.info? elem).map (·.size) = some sz)
    (hg : w.heap[g]? = some (.cells cur t (0, 0))) (hn : n = Nat.min sLen dLen) (hc : cs.length = n * sz)
    (hsrc : ∀ j v, cs[j]? = some v → w.cell? (a.add j) = some v) (hfit : o + cs.length ≤ cur.size) (h1 : ∀ v ∈ cs, v.oneCell' = true) :
    (Builtin.copy_ #[dT, sT] ty #[.slice (some ⟨g, o, none⟩) dLen dCap, .slice (some a) sLen sCap]).run P w =
      .ok (goInt n) (w.setRow g (cur.toList.take o ++ cs ++ cur.toList.drop (o + cs.length)).toArray) := by
  have hl := run_loadCells_list (P := P) w a cs hsrc
  have hst := run_storeCells_at P g o t cs 0 cur w hg (by simpa using hfit) h1
  cases hq : P.info? elem with
  | none => simp [hq] at hs
  | some i =>
    have hi : i.size = sz := by simpa [hq] using hs
    simp [Builtin.copy_, run_underlying hu, Builtin.lenOf, Builtin.firstCells, sizeOf, typeInfo, hq, hi, ← hn, ← hc, hl, hst]

/-- copy of pairs, as one step of a drawn region. -/
theorem step_copy_pairs {P : Program} {ops : Array Oper} {o : Oper} {a : Act} {w : World} {K : Act → World → Prop} {Q : Exit → Act → World → Prop} {E : Prop} (hgd : o.guard = none) (d s : Operand) (dT sT : TypeId)
    (ho : o.op = .call { callee := .builtin .copy, args := #[d, s], argTypes := #[dT, sT] }) (elem : TypeId) (hu : P.underlying dT = some (.slice elem)) (hsz : (P.info? elem).map (·.size) = some 2)
    (dp sp : Option Addr) (dLen dCap sLen sCap : Nat) (hd : a.eval d = .slice dp dLen dCap) (hs : a.eval s = .slice sp sLen sCap)
    (g off : Nat) (cur : List (Int × Bool)) (t : TypeId) (hg : w.heap[g]? = some (.cells (flP cur).toArray t (0, 0))) (X : List (Int × Bool)) (hn : X.length = Nat.min sLen dLen)
    (hpos : 0 < X.length → dp = some ⟨g, off * 2, none⟩ ∧ ∃ ad, sp = some ad ∧ ∀ j v, (flP X)[j]? = some v → w.cell? (ad.add j) = some v)
    (hfit : off + X.length ≤ cur.length) (B : Nat) (w0 : World) (hb : Below B w0 w) (hBg : B ≤ g)
    (h : ∀ w', Hid (w'.heap[g]? = some (.cells (flP (splice cur off X)).toArray t (0, 0))) → Below B w0 w' → K (a.put o.dst (goInt X.length)) w') :
    if Region.wanted o (yielded ops a.tmps) = true then Oper.wp P o a w K Q else E := by
  have hw : Region.wanted o (yielded ops a.tmps) = true := by simp [Region.wanted, hgd]
  rw [if_pos hw]
  by_cases h0 : X.length = 0
  · obtain rfl : X = [] := List.eq_nil_of_length_eq_zero h0
    have hrun := run_copy_nothingN (P := P) w dT sT o.type elem 2 dp sp dLen dCap sLen sCap hu hsz (by simpa using hn.symm)
    unfold Oper.wp
    simp [execOp, ho, resolve, invoke, builtin, hd, hs, hrun, Result.andThen]
    exact h w (show _ = _ by simpa [splice] using hg) hb
  · obtain ⟨rfl, ad, rfl, hsrc⟩ := hpos (by omega)
    have hrun := run_copy_rowN (P := P) w dT sT o.type elem 2 X.length g (off * 2) dLen dCap ad sLen sCap (flP cur).toArray t (flP X) hu hsz hg hn (flP_len X) hsrc (by simp [flP_len]; omega) (flP_one X)
    unfold Oper.wp
    simp [execOp, ho, resolve, invoke, builtin, hd, hs, hrun, Result.andThen]
    refine h _ (show _ = _ from ?_) (below_setRow hb hBg _)
    rw [flP_splice]
    simpa [splice] using setRow_heap w g _ _ t _ hg

theorem made_pairs (n : Nat) : madeCells #[.int .i64 0, .bool false] (n * 2) = (flP (List.replicate n (0, false))).toArray := by
  apply Array.ext_getElem?
  intro i
  have e0 : (flP (List.replicate n (0, false))).toArray[i]? = (flP (List.replicate n (0, false)))[i]? := List.getElem?_toArray
  rw [e0]
  by_cases h : i < n * 2
  · have h2 := flP_at (List.replicate n (0, false)) (i / 2) (0, false) (by rw [List.getElem?_replicate, if_pos (by omega)])
    rcases Nat.mod_two_eq_zero_or_one i with e | e
    · rw [show i / 2 * 2 = i by omega] at h2
      rw [h2.1]
      simp [madeCells, h, e]
    · rw [show i / 2 * 2 + 1 = i by omega] at h2
      rw [h2.2]
      simp [madeCells, h, e]
  · rw [List.getElem?_eq_none (by rw [flP_len, List.length_replicate]; omega)]
    simp [madeCells, h]

end Go.Proofs.Ytomfhbngpikjeab
