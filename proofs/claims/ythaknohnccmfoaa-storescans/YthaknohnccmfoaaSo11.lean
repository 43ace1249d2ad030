/- Lists of versions in memory; slices.Reverse of one. -/
import Derived.Test.YthaknohnccmfoaaSo10
namespace Go.Proofs.Ythaknohnccmfoaa
open Go.RowKit

def zeroVn : Vn := ⟨⟨#[]⟩, 0, none, [], 0, false⟩
def quadV (x : Vn) : List Value := [.string x.k, .int .i64 x.n, .slice x.a x.z.length x.c, .bool x.d]
def celV (ys : List Vn) : List Value := ys.flatMap quadV
def vn (ys : List Vn) (i : Nat) : Vn := ys.getD i zeroVn
theorem celV_len (xs : List Vn) : (celV xs).length = xs.length * 4 := by
  induction xs with
  | nil => rfl
  | cons x xs ih => show (quadV x ++ celV xs).length = _; rw [List.length_append, ih]; simp [quadV]; omega
theorem celV_append (xs ys : List Vn) : celV (xs ++ ys) = celV xs ++ celV ys := by simp [celV]
theorem celV_one (x : Vn) : celV [x] = quadV x := by simp [celV]
theorem celV_at {xs : List Vn} : ∀ {i : Nat} (_ : i < xs.length) (j : Nat) (_ : j < 4), (celV xs)[i * 4 + j]? = (quadV (vn xs i))[j]? := by
  induction xs with
  | nil => intro i h; simp at h
  | cons x xs ih =>
    intro i h j hj
    show (quadV x ++ celV xs)[i * 4 + j]? = _
    cases i with
    | zero => rw [List.getElem?_append_left (by simp [quadV]; omega)]; simp [vn]
    | succ i =>
      rw [List.getElem?_append_right (by simp [quadV]; omega)]
      have := ih (i := i) (by simpa using h) j hj
      rw [show (i + 1) * 4 + j - (quadV x).length = i * 4 + j by simp [quadV]; omega, this]
      simp [vn]
theorem vn_get {xs : List Vn} {i : Nat} (hi : i < xs.length) : xs[i] = vn xs i := by
  unfold vn; rw [List.getD_eq_getElem?_getD, List.getElem?_eq_getElem hi]; rfl
theorem vn_set_self {xs : List Vn} {i : Nat} (h : i < xs.length) (x : Vn) : vn (xs.set i x) i = x := by
  unfold vn; rw [List.getD_eq_getElem?_getD, List.getElem?_set_self h]; rfl
theorem vn_set_ne {xs : List Vn} {i j : Nat} (h : i ≠ j) (x : Vn) : vn (xs.set i x) j = vn xs j := by
  unfold vn; rw [List.getD_eq_getElem?_getD, List.getD_eq_getElem?_getD, List.getElem?_set_ne h]
theorem vn_rev {xs : List Vn} {i : Nat} (h : i < xs.length) : vn xs.reverse i = vn xs (xs.length - 1 - i) := by
  unfold vn; rw [List.getD_eq_getElem?_getD, List.getD_eq_getElem?_getD, List.getElem?_reverse h]
theorem eq_of_vn {xs ys : List Vn} (hl : xs.length = ys.length) (h : ∀ i, i < xs.length → vn xs i = vn ys i) : xs = ys := by
  apply List.ext_getElem hl
  intro i h1 h2
  rw [vn_get h1, vn_get h2]; exact h i h1
theorem celV_set {xs : List Vn} {i : Nat} (hi : i < xs.length) (x : Vn) : ((((celV xs).set (i * 4) (.string x.k)).set (i * 4 + 1) (.int .i64 x.n)).set (i * 4 + 2) (.slice x.a x.z.length x.c)).set (i * 4 + 3) (.bool x.d) = celV (xs.set i x) := by
  apply List.ext_getElem?
  intro m
  have hl := celV_len xs
  have hl2 := celV_len (xs.set i x)
  rw [List.length_set] at hl2
  by_cases hm : m < xs.length * 4
  · have hq : m / 4 < xs.length := by omega
    have hr : m % 4 < 4 := by omega
    have hms : m = m / 4 * 4 + m % 4 := by omega
    rw [hms, celV_at (by rw [List.length_set]; exact hq) _ hr]
    by_cases e : m / 4 = i
    · rw [e, vn_set_self hi]
      have h4 : m % 4 = 0 ∨ m % 4 = 1 ∨ m % 4 = 2 ∨ m % 4 = 3 := by omega
      rcases h4 with h4 | h4 | h4 | h4 <;> rw [h4]
      · rw [List.getElem?_set_ne (by omega), List.getElem?_set_ne (by omega), List.getElem?_set_ne (by omega), Nat.add_zero, List.getElem?_set_self (by omega)]; rfl
      · rw [List.getElem?_set_ne (by omega), List.getElem?_set_ne (by omega), List.getElem?_set_self (by rw [List.length_set]; omega)]; rfl
      · rw [List.getElem?_set_ne (by omega), List.getElem?_set_self (by rw [List.length_set, List.length_set]; omega)]; rfl
      · rw [List.getElem?_set_self (by rw [List.length_set, List.length_set, List.length_set]; omega)]; rfl
    · rw [vn_set_ne (Ne.symm e), List.getElem?_set_ne (by omega), List.getElem?_set_ne (by omega), List.getElem?_set_ne (by omega), List.getElem?_set_ne (by omega), celV_at hq _ hr]
  · rw [List.getElem?_eq_none (by simp; omega), List.getElem?_eq_none (by omega)]

/-- A list of versions of one's own. -/
def OwV (w : World) (B : Nat) (v : Value) (ys : List Vn) : Prop := OwnS w B 30 4 v ys.length (celV ys)
/-- Each one's bytes lie in memory from block B on. -/
def ValV (w : World) (B : Nat) (ys : List Vn) : Prop := ∀ y ∈ ys, OwnB w B (.slice y.a y.z.length y.c) y.z
theorem OwV.set {w : World} {B g o cap : Nat} {ys : List Vn} (h : OwV w B (.slice (some ⟨g, o, none⟩) ys.length cap) ys) {i : Nat} (hi : i < ys.length) (x : Vn) :
    OwV ((((w.setCell ⟨g, o + i * 4, none⟩ (.string x.k)).setCell ⟨g, o + i * 4 + 1, none⟩ (.int .i64 x.n)).setCell ⟨g, o + i * 4 + 2, none⟩ (.slice x.a x.z.length x.c)).setCell ⟨g, o + i * 4 + 3, none⟩ (.bool x.d)) B (.slice (some ⟨g, o, none⟩) ys.length cap) (ys.set i x) := by
  have hl := celV_len ys
  have h1 := OwnS.set h (i * 4) (by omega) (.string x.k)
  have h2 := OwnS.set h1 (i * 4 + 1) (by rw [List.length_set]; omega) (.int .i64 x.n)
  have h3 := OwnS.set h2 (i * 4 + 2) (by rw [List.length_set, List.length_set]; omega) (.slice x.a x.z.length x.c)
  have h4 := OwnS.set h3 (i * 4 + 3) (by rw [List.length_set, List.length_set, List.length_set]; omega) (.bool x.d)
  rw [celV_set hi] at h4
  unfold OwV
  rw [List.length_set]
  exact h4
theorem OwV.cells {w : World} {B g o cap : Nat} {ys : List Vn} (h : OwV w B (.slice (some ⟨g, o, none⟩) ys.length cap) ys) {i : Nat} (hi : i < ys.length) :
    w.cell? ⟨g, o + i * 4, none⟩ = some (.string (vn ys i).k) ∧ w.cell? ⟨g, o + i * 4 + 1, none⟩ = some (.int .i64 (vn ys i).n) ∧ w.cell? ⟨g, o + i * 4 + 2, none⟩ = some (.slice (vn ys i).a (vn ys i).z.length (vn ys i).c) ∧ w.cell? ⟨g, o + i * 4 + 3, none⟩ = some (.bool (vn ys i).d) ∧ g < w.heap.size ∧ ∀ j, w.frozen? ⟨g, j, none⟩ = false := by
  rcases h.2 with ⟨h2, _⟩ | ⟨g', o', cap', cur, e1, hb, hh, hn, hc, hs, ht⟩
  · cases h2
  · cases e1
    have hl := celV_len ys
    refine ⟨?_, ?_, ?_, ?_, (Array.getElem?_eq_some_iff.1 hh).1, fun j => frozen_of_row _ _ _ _ _ hh⟩
    · rw [cell_of_row _ _ _ _ _ _ hh, ht (i * 4) (by omega)]; exact celV_at hi 0 (by omega)
    · rw [cell_of_row _ _ _ _ _ _ hh, Nat.add_assoc, ht (i * 4 + 1) (by omega)]; exact celV_at hi 1 (by omega)
    · rw [cell_of_row _ _ _ _ _ _ hh, Nat.add_assoc, ht (i * 4 + 2) (by omega)]; exact celV_at hi 2 (by omega)
    · rw [cell_of_row _ _ _ _ _ _ hh, Nat.add_assoc, ht (i * 4 + 3) (by omega)]; exact celV_at hi 3 (by omega)

/-- The first m and the last m are turned. -/
def turnV (ys : List Vn) : Nat → List Vn
  | 0 => ys
  | m + 1 => ((turnV ys m).set m (vn (turnV ys m) (ys.length - 1 - m))).set (ys.length - 1 - m) (vn (turnV ys m) m)
theorem turnV_len (ys : List Vn) (m : Nat) : (turnV ys m).length = ys.length := by
  induction m with
  | zero => rfl
  | succ m ih => unfold turnV; rw [List.length_set, List.length_set, ih]
theorem turnV_at (ys : List Vn) (m : Nat) (hm : 2 * m ≤ ys.length) (i : Nat) (hi : i < ys.length) : vn (turnV ys m) i = if i < m ∨ ys.length - m ≤ i then vn ys (ys.length - 1 - i) else vn ys i := by
  induction m generalizing i with
  | zero => rw [if_neg (by omega)]; rfl
  | succ m ih =>
    have hl := turnV_len ys m
    have ih := ih (by omega)
    unfold turnV
    by_cases e1 : i = ys.length - 1 - m
    · subst e1
      rw [vn_set_self (by rw [List.length_set, hl]; omega), ih m (by omega), if_neg (by omega), if_pos (by omega)]
      congr 1; omega
    · rw [vn_set_ne (by omega)]
      by_cases e2 : i = m
      · subst e2
        rw [vn_set_self (by rw [hl]; omega), ih _ (by omega), if_neg (by omega), if_pos (by omega)]
      · rw [vn_set_ne (by omega), ih i hi]
        by_cases h3 : i < m ∨ ys.length - m ≤ i
        · rw [if_pos h3, if_pos (by omega)]
        · rw [if_neg h3, if_neg (by omega)]
theorem turnV_all (ys : List Vn) {m : Nat} (h1 : 2 * m ≤ ys.length) (h2 : ys.length ≤ 2 * m + 1) : turnV ys m = ys.reverse := by
  refine eq_of_vn (by rw [turnV_len, List.length_reverse]) fun i hi => ?_
  rw [turnV_len] at hi
  rw [turnV_at ys m h1 i hi, vn_rev hi]
  split
  · rfl
  · congr 1; omega

set_option maxRecDepth 100000 in
set_option maxHeartbeats 4000000 in
theorem reverse_any {w : World} {B : Nat} {v : Value} {ys : List Vn} (h : OwV w B v ys) (hl : ys.length ≤ 4000000000000) :
    Calls Try.prog 45 #[v] w fun e w' => e = .returned (.tuple #[]) ∧ OwV w' B v ys.reverse ∧ Chg (fun j => v.ownBlock = some j) w w' := by
  have hcase : (ys.length = 0 ∧ ∃ a n c, v = .slice a n c ∧ n = 0) ∨ ∃ g o cap, v = .slice (some ⟨g, o, none⟩) ys.length cap ∧ ys.length ≤ cap := by
    rcases h.2 with ⟨rfl, h0⟩ | ⟨g, o, cap, cur, rfl, _, _, hn, _⟩
    · exact .inl ⟨h0, _, _, _, rfl, rfl⟩
    · exact .inr ⟨g, o, cap, rfl, hn⟩
  rcases hcase with ⟨h0, a, n, c, rfl, rfl⟩ | ⟨g, o, cap, rfl, hcap⟩
  · have e : ys = [] := List.eq_nil_of_length_eq_zero h0
    subst e
    have HH := hide_it h
    clear h
    go_enter Try.func45, Try.ntmps45
    go_wp2
    refine wp_loop_rounds 1 ?_
    rw [rounds_succ]
    go_wp2
    go_end0
    exact ⟨rfl, HH.out, Chg.refl _ _⟩
  · obtain ⟨N, hN⟩ : ∃ N, N = ys.length := ⟨_, rfl⟩
    have HN := hide_it hN
    have hw0 : IntKind.i64.wrap ((N : Int) - 1) = (N : Int) - 1 := i64_in (by omega) (by omega)
    have HH : Hid (OwV w B (.slice (some ⟨g, o, none⟩) N cap) ys) := by rw [hN]; exact hide_it h
    rw [← hN] at hcap ⊢
    clear h hN
    go_enter Try.func45, Try.ntmps45
    go_wp2
    go_loopw [2, 3] (fun i j wr => ∃ m : Nat, i = .int .i64 (m : Int) ∧ j = .int .i64 ((N : Int) - 1 - (m : Int)) ∧ 2 * m ≤ N + 1 ∧ Hid (OwV wr B (.slice (some ⟨g, o, none⟩) N cap) (turnV ys (min m (N / 2)))) ∧ Hid (Chg (fun j => j = g) w wr)) (fun i _ _ => N + 1 - (intOf i).toNat)
    case atStart => exact ⟨0, rfl, by simp, by omega, by simpa [turnV] using HH, hide_it (Chg.refl _ _)⟩
    case round =>
      obtain ⟨m, rfl, rfl, hm, HO, HC⟩ := hrel
      clear HH
      by_cases hlt : (m : Int) < (N : Int) - 1 - (m : Int)
      · have hmin : min m (N / 2) = m := by omega
        rw [hmin] at HO
        obtain ⟨zs, hzs⟩ : ∃ zs, zs = turnV ys m := ⟨_, rfl⟩
        have hzl : zs.length = N := by rw [hzs, turnV_len, ← HN.out]
        rw [← hzs] at HO
        have HO2 := HO.out
        rw [← hzl] at HO2
        obtain ⟨J, hJ⟩ : ∃ J, J = N - 1 - m := ⟨_, rfl⟩
        have hmz : m < zs.length := by omega
        have hjz : J < zs.length := by omega
        have hji : ((N : Int) - 1 - (m : Int)) = (J : Int) := by omega
        rw [hji] at hlt ⊢
        have hmN : (m : Int) < (N : Int) := by omega
        have hjN : (J : Int) < (N : Int) := by omega
        obtain ⟨a0, a1, a2, a3, hg, hfz⟩ := HO2.cells hmz
        obtain ⟨b0, b1, b2, b3, _, _⟩ := HO2.cells hjz
        have hs1 := HO2.set hmz (vn zs J)
        have hs2 := OwV.set (by rw [List.length_set]; exact hs1) (i := J) (by rw [List.length_set]; exact hjz) (vn zs m)
        have hg0 := hfz (o + m * 4)
        have hg1 := hfz (o + m * 4 + 1)
        have hg2 := hfz (o + m * 4 + 2)
        have hg3 := hfz (o + m * 4 + 3)
        have HJ := hide_it hJ
        have HZ := hide_it hzs
        have HZL := hide_it hzl
        have hmN2 : m < N := by omega
        have hjN2 : J < N := by omega
        have hs3 := hs2
        rw [List.length_set, hzl] at hs3
        have HS3 := hide_it (OwnS.drew hs3)
        have HT : Hid (turnV ys (min (m + 1) (N / 2)) = (zs.set m (vn zs J)).set J (vn zs m)) := by
          rw [show min (m + 1) (N / 2) = m + 1 by omega]
          show ((turnV ys m).set m (vn (turnV ys m) (ys.length - 1 - m))).set (ys.length - 1 - m) (vn (turnV ys m) m) = _
          rw [← hzs, ← HN.out, ← hJ]
        have hNb : N ≤ 4000000000000 := by have := HN.out; omega
        have hw1 : IntKind.i64.wrap ((m : Int) + 1) = (m : Int) + 1 := i64_in (by omega) (by omega)
        have hw2 : IntKind.i64.wrap ((J : Int) - 1) = (J : Int) - 1 := i64_in (by omega) (by omega)
        clear hNb hJ hzs hzl hji hs1 hs2 hs3 HO2 hmz hjz hmin
        go_wp2_with fail
        go_region
        go_wp2
        go_roundw
        case rel =>
          have hj := HJ.out
          exact ⟨m + 1, by first | rfl | go_num, by congr 1; omega, by omega, by rw [HT.out]; exact HS3, hide_it ((((((((HC.out.setCell _ _ fun _ => rfl).setCell _ _ fun _ => rfl).setCell _ _ fun _ => rfl).setCell _ _ fun _ => rfl).setCell _ _ fun _ => rfl).setCell _ _ fun _ => rfl).setCell _ _ fun _ => rfl).setCell _ _ fun _ => rfl).drew⟩
        case measure => simp [intOf]; omega
      · have hmin : min m (N / 2) = N / 2 := by omega
        have HE : Hid (turnV ys (min m (N / 2)) = ys.reverse) := by rw [hmin]; exact hide_it (turnV_all ys (by have := HN.out; omega) (by have := HN.out; omega))
        go_wp2
        go_end0
        exact ⟨rfl, by rw [HE.out] at HO; exact HO.out, HC.out.mono fun j _ e => by rw [e]; rfl⟩

end Go.Proofs.Ythaknohnccmfoaa
