/- Rows of bytes in memory: two compared; a copy with room behind it; how wide a kind of number is. -/
import Derived.Test.YtfhinodieghklabRows
import Derived.WalkKit
import Derived.WalkSpells
import Derived.WalkLawsBesides
import Derived.Laws.BitsAllLaws
import Derived.Maps.AppendAt
import Derived.Laws.AppendOwnNone
import Derived.OwnWalk
import Derived.Below
import Derived.Tactics
import Derived.Deep.OwnRows
import Derived.OpenShut
import Derived.Deep.QuietTactic
import Derived.BigQuiet
import Derived.RegionTactic
namespace Go.Proofs.Ytfhinodieghklab
open Go.RowKit

/-- The element i of a list, 0 beyond its end. -/
def at0 (zs : List Nat) (i : Nat) : Nat := zs.getD i 0
/-- A number of 64 bits. -/
def W64 (a : Nat) : Prop := a < 18446744073709551616
/-- All are bytes. -/
def All8 (zs : List Nat) : Prop := ∀ z ∈ zs, z < 256
/-- A byte as a value. -/
def encB (z : Nat) : Value := .int .u8 (z : Int)

theorem hide_it {p : Prop} (h : p) : Hid p := h

theorem below_drewN {w w' : World} {B : Nat} (h : Below B w w') (q : Nat) : Below B w (w'.drewN q) := by
  induction q with
  | zero => exact h
  | succ q ih => exact ih.drew

theorem at0_get {zs : List Nat} {i : Nat} (hi : i < zs.length) : zs[i] = at0 zs i := by
  unfold at0; rw [List.getD_eq_getElem?_getD, List.getElem?_eq_getElem hi]; rfl
theorem at0_mem {zs : List Nat} {i : Nat} (h : i < zs.length) : at0 zs i ∈ zs := by
  rw [← at0_get h]; exact List.getElem_mem h
theorem mapB_at {zs : List Nat} {i : Nat} (h : i < zs.length) : (zs.map encB)[i]? = some (encB (at0 zs i)) := by
  rw [List.getElem?_map, List.getElem?_eq_getElem h, at0_get h]; rfl

/-- A row of bytes: the slice's address and its elements (none: whatever the address). -/
def RowB (w : World) (a : Option Addr) (zs : List Nat) : Prop :=
  zs.length = 0 ∨ ∃ b o, a = some ⟨b, o, none⟩ ∧ b < w.heap.size ∧ ∀ i, i < zs.length → w.cell? ⟨b, o + i, none⟩ = some (.int .u8 ((at0 zs i : Nat) : Int))

theorem RowB.below {w w' : World} {a : Option Addr} {zs : List Nat} (h : RowB w a zs) (hb : Below w.heap.size w w') : RowB w' a zs := by
  rcases h with h | ⟨b, o, e, hlt, hc⟩
  · exact .inl h
  · exact .inr ⟨b, o, e, Nat.lt_of_lt_of_le hlt hb.size, fun i hi => by rw [hb.cell (p := ⟨b, o + i, none⟩) hlt]; exact hc i hi⟩
theorem RowB.here {w : World} {a : Option Addr} {zs : List Nat} (h : RowB w a zs) {i : Nat} (hi : i < zs.length) :
    ∃ b o, a = some ⟨b, o, none⟩ ∧ b < w.heap.size ∧ ∀ i, i < zs.length → w.cell? ⟨b, o + i, none⟩ = some (.int .u8 ((at0 zs i : Nat) : Int)) := by
  rcases h with h | h
  · omega
  · exact h

/-- v is a slice of the call's own that holds the bytes zs. -/
def OwnB (w : World) (base : Nat) (v : Value) (zs : List Nat) : Prop := w.ownsRow base 5 1 v zs.length (zs.map encB)

theorem OwnB.row {w : World} {base : Nat} {v : Value} {zs : List Nat} (h : OwnB w base v zs) : ∃ a cap, v = .slice a zs.length cap ∧ RowB w a zs ∧ zs.length ≤ cap ∧ cap ≤ maxLen ∧ (a = none → zs.length = 0 ∧ cap = 0) := by
  rcases h.2 with ⟨rfl, h0⟩ | ⟨g, cap, cur, rfl, _, hh, hn, hm, _, ht⟩
  · exact ⟨none, 0, by rw [h0], .inl h0, by omega, by simp [maxLen], fun _ => ⟨h0, rfl⟩⟩
  · refine ⟨_, cap, rfl, .inr ⟨g, 0, rfl, (Array.getElem?_eq_some_iff.1 hh).1, fun i hi => ?_⟩, hn, hm, fun e => by cases e⟩
    rw [Nat.zero_add, cell_of_row _ _ _ _ _ _ hh]
    have h3 : (cur.toList.take (zs.length * 1))[i]? = (zs.map encB)[i]? := by rw [ht]
    rw [List.getElem?_take_of_lt (by omega)] at h3
    rw [← Array.getElem?_toList, h3]
    exact mapB_at hi
theorem OwnB.ge {w : World} {base : Nat} {v : Value} {zs : List Nat} (h : OwnB w base v zs) {j : Nat} (hj : v.ownBlock = some j) : base ≤ j := (h.lt j hj).1
theorem OwnB.below {w w' : World} {base : Nat} {v : Value} {zs : List Nat} (h : OwnB w base v zs) (hb : Below w.heap.size w w') : OwnB w' base v zs := by
  refine ⟨h.1, ?_⟩
  rcases h.2 with h2 | ⟨g, cap, cur, rfl, h3, hh, h4⟩
  · exact .inl h2
  · exact .inr ⟨g, cap, cur, rfl, h3, by rw [hb.block _ (Array.getElem?_eq_some_iff.1 hh).1]; exact hh, h4⟩

theorem infoB : (Try.prog.info? 5).map (fun i => (i.zero, i.size, i.bytes)) = some (some (.int .u8 0), 1, 1) := by kernel_rfl

theorem eq_of_at {xs ys : List Nat} (hl : xs.length = ys.length) (h : ∀ i, i < xs.length → at0 xs i = at0 ys i) : xs = ys := by
  apply List.ext_getElem hl
  intro i h1 h2
  rw [at0_get h1, at0_get h2]; exact h i h1

def sameTo (xs ys : List Nat) (k : Nat) : Prop := ∀ i, i < k → at0 xs i = at0 ys i

set_option maxRecDepth 100000 in
set_option maxHeartbeats 400000 in
theorem equal_len (a b : Option Addr) (n ca cb : Nat) (xs ys : List Nat) (w : World) (hx : RowB w a xs) (hy : RowB w b ys) (hl : (n : Int) ≤ 9223372036854775807) (hnx : Hid (xs.length = n)) (hny : Hid (ys.length = n)) :
    Calls Try.prog 17 #[.slice a n ca, .slice b n cb] w fun e w' => e = .returned (.bool (decide (xs = ys))) ∧ ∃ q, w' = w.drewN q := by
  go_enter Try.func17, Try.ntmps17
  go_wp2
  go_loopw [13] (fun i wr => ∃ k m : Nat, k ≤ n ∧ i = .int .i64 k ∧ wr = w.drewN m ∧ Hid (sameTo xs ys k)) (fun i _ => n - (intOf i).toNat)
  case atStart => exact ⟨0, 0, by omega, rfl, rfl, fun i hi => by omega⟩
  case round =>
    obtain ⟨k, m, hk, rfl, hwr, hto⟩ := hrel
    by_cases hlt : k < n
    · have hbl : Below w.heap.size w wr := by rw [hwr]; exact below_drewN (Below.refl _ _) _
      obtain ⟨ba, oa, rfl, _, hca⟩ := (hx.below hbl).here (i := k) (by rw [hnx.out]; exact hlt)
      obtain ⟨bb, ob, rfl, _, hcb⟩ := (hy.below hbl).here (i := k) (by rw [hny.out]; exact hlt)
      have h1 := hca k (by rw [hnx.out]; exact hlt)
      have h2 := hcb k (by rw [hny.out]; exact hlt)
      obtain ⟨u, hu⟩ : ∃ u, u = at0 xs k := ⟨_, rfl⟩
      obtain ⟨v, hv⟩ : ∃ v, v = at0 ys k := ⟨_, rfl⟩
      have HU := hide_it hu
      have HV := hide_it hv
      have HW := hide_it hwr
      have hi1 : (k : Int) < (n : Int) := by omega
      rw [← hu] at h1
      rw [← hv] at h2
      clear hu hv hca hcb hbl hwr
      by_cases huv : u = v
      · have hd : ((u : Int) == (v : Int)) = true := by simp; omega
        go_wp2
        go_quiet (fail)
        go_wp2
        go_roundw
        case rel =>
          refine ⟨k + 1, m + nq, by omega, by go_num, by rw [HW.out, World.drewN_drewN], fun i hi => ?_⟩
          by_cases e : i = k
          · subst e; rw [← HU.out, ← HV.out]; exact huv
          · exact hto i (by omega)
        case measure => simp [intOf]; omega
      · have hd : ((u : Int) == (v : Int)) = false := by simp; omega
        have hf : decide (xs = ys) = false := by
          simp; intro e; exact huv (by rw [HU.out, HV.out, e])
        have HF := hide_it hf
        clear hf
        go_wp2
        go_quiet (fail)
        go_wp2
        go_ret
        rw [HF.out]
        exact ⟨rfl, m + nq, by rw [HW.out, World.drewN_drewN]⟩
    · have ht : decide (xs = ys) = true := decide_eq_true (eq_of_at (by rw [hnx.out, hny.out]) (fun i hi => hto i (by rw [hnx.out] at hi; omega)))
      have HT := hide_it ht
      clear ht
      go_wp2
      go_ret
      rw [HT.out]
      exact ⟨rfl, m, rfl⟩

set_option maxRecDepth 100000 in
set_option maxHeartbeats 400000 in
theorem equal_any (a b : Option Addr) (ca cb : Nat) (xs ys : List Nat) (w : World) (hx : RowB w a xs) (hy : RowB w b ys) (hlx : xs.length ≤ maxLen) (_ : ys.length ≤ maxLen) :
    Calls Try.prog 17 #[.slice a xs.length ca, .slice b ys.length cb] w fun e w' => e = .returned (.bool (decide (xs = ys))) ∧ ∃ q, w' = w.drewN q := by
  unfold maxLen at hlx
  by_cases hl : xs.length = ys.length
  · have := equal_len a b xs.length ca cb xs ys w hx hy (by omega) rfl hl.symm
    rwa [← hl]
  · have hf : decide (xs = ys) = false := by simp; intro e; exact hl (by rw [e])
    have hl1 : ((xs.length : Int) == (ys.length : Int)) = false := by simp; omega
    rw [hf]
    go_enter Try.func17, Try.ntmps17
    go_wp2
    go_ret
    exact ⟨rfl, 0, rfl⟩

set_option maxRecDepth 100000 in
set_option maxHeartbeats 400000 in
theorem withRoom_any (a : Option Addr) (cap more : Nat) (zs : List Nat) (w : World) (hr : RowB w a zs) (hl : zs.length + more ≤ 140737488355328) (hnil : a = none → zs.length = 0 ∧ cap = 0) :
    Calls Try.prog 44 #[.slice a zs.length cap, .int .i64 (more : Int)] w fun e w' => (∃ v, e = .returned v ∧ OwnB w' w.heap.size v zs) ∧ Below w.heap.size w w' := by
  obtain ⟨i0, hi, hz0, hz1, hz2⟩ := info_parts infoB
  cases a with
  | none =>
    obtain ⟨h1, h2⟩ := hnil rfl
    have hzs : zs = [] := List.eq_nil_of_length_eq_zero h1
    subst hzs
    subst h2
    go_enter Try.func44, Try.ntmps44
    go_wp2_with (first | (refine wpList_make_own _ rfl _ _ 23 rfl w.heap.size 5 i0 (.int .u8 0) 1 Try.underlying23 hi hz0 hz1 .i64 .i64 _ more rfl rfl (by simp) (by rw [hz2]; simp at hl; omega) (by unfold maxLen; simp at hl; omega) (Nat.le_refl _) ?_; intro w1 hown1 hg1) | (at_builtin; refine wpList_append_own_none rfl _ _ 23 rfl w.heap.size 5 i0 1 Try.underlying23 hi _ 0 [] rfl hown1 rfl ?_))
    go_ret
    exact ⟨⟨_, rfl, hown1⟩, (Below.refl _ _).grown hg1 (Nat.le_refl _) (fun j e => by cases e)⟩
  | some ad =>
    have hnews : ∀ w1 : World, Below w.heap.size w w1 → ∀ j u, (zs.map encB)[j]? = some u → w1.cell? (ad.add j) = some u := fun w1 hb j u hu => by
      have hj : j < zs.length := by have := (List.getElem?_eq_some_iff.1 hu).1; simpa using this
      obtain ⟨b, o, e, hlt, hc⟩ := hr.here hj
      cases e
      rw [Addr.add_lit, hb.cell (p := ⟨b, o + j, none⟩) hlt, hc j hj]
      exact (mapB_at hj).symm.trans hu
    have hone : ∀ u ∈ zs.map encB, u.oneCell' = true := fun u hu => by
      obtain ⟨z, _, rfl⟩ := List.mem_map.1 hu
      rfl
    have hlm : (zs.map encB).length = zs.length * 1 := by simp
    clear hr
    go_enter Try.func44, Try.ntmps44
    go_wp2_with (first | (refine wpList_make_own _ rfl _ _ 23 rfl w.heap.size 5 i0 (.int .u8 0) 1 Try.underlying23 hi hz0 hz1 .i64 .i64 _ (zs.length + more) rfl rfl (by simp) (by rw [hz2]; omega) (by unfold maxLen; omega) (Nat.le_refl _) ?_; intro w1 hown1 hg1; have hb1 : Below w.heap.size w w1 := (Below.refl _ _).grown hg1 (Nat.le_refl _) (fun j e => by cases e)) | (at_builtin; refine wpList_append_own_at _ rfl _ _ 23 rfl w.heap.size 5 i0 (.int .u8 0) 1 1 Try.underlying23 hi hz0 hz1 hz2 rfl (by omega) _ _ _ rfl hown1 ad zs.length cap (zs.map encB) rfl hlm (hnews _ hb1) hone (by unfold maxLen; omega) (by omega) hb1.size ?_; intro v4 w4 hown4 hgrow4 hnil4 hat4))
    go_ret
    exact ⟨⟨v4, rfl, by simpa [OwnB] using hown4⟩, hb1.grown hgrow4 hb1.size (fun j e => by cases e; exact Nat.le_refl _)⟩

end Go.Proofs.Ytfhinodieghklab
