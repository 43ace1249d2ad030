/- That the calls whose answers the document fixes answer so. -/
import Derived.Test.YthclmkmajlinhabCov4
import Derived.Test.YthclmkmajlinhabClose2
namespace Go.Proofs.Ythclmkmajlinhab
open Go.RowKit Go.Maps

def sameTo (xs ys : List Nat) (k : Nat) : Prop := ∀ i, i < k → at0 xs i = at0 ys i
theorem same_of {xs ys : List Nat} (hl : xs.length = ys.length) (h : sameTo xs ys xs.length) : xs = ys := by
  apply List.ext_getElem hl
  intro i h1 h2
  rw [at0_get h1, at0_get h2]; exact h i h1

set_option maxHeartbeats 1000000 in
theorem sameLabels_any (a b : Option Addr) (ca cb : Nat) (xs ys : List Nat) (w : World) (hx : Row w a xs) (hy : Row w b ys) (hl : xs.length ≤ maxLen) :
    Calls Try.prog 12 #[.slice a xs.length ca, .slice b ys.length cb] w fun e w' => e = .returned (.bool (decide (xs = ys))) ∧ Below w.heap.size w w' := by
  unfold maxLen at hl
  by_cases hlen : xs.length = ys.length
  · have hd : ((xs.length : Int) != (ys.length : Int)) = false := by simp [hlen]
    have HL : Hid (xs.length = ys.length) := hlen
    have hl2 : (xs.length : Int) ≤ (ys.length : Int) := by omega
    clear hlen
    go_enter Try.func12, Try.ntmps12
    go_wp2
    go_loopw [5] (fun i wr => ∃ k : Nat, k ≤ xs.length ∧ i = .int .i64 k ∧ Hid (sameTo xs ys k) ∧ Below w.heap.size w wr) (fun i _ => xs.length - (intOf i).toNat)
    case atStart => exact ⟨0, by omega, rfl, fun i hi => by omega, Below.refl _ _⟩
    case round =>
      obtain ⟨k, hk, rfl, hto, hbl⟩ := hrel
      by_cases hlt : k < xs.length
      · obtain ⟨b1, o1, rfl, _, hc1⟩ := (hx.below hbl).here hlt
        obtain ⟨b2, o2, rfl, _, hc2⟩ := (hy.below hbl).here (i := k) (by have := HL.out; omega)
        have hk1 := hc1 k hlt
        have hk2 := hc2 k (by have := HL.out; omega)
        clear hc1 hc2
        obtain ⟨x, hxe⟩ : ∃ x, x = at0 xs k := ⟨_, rfl⟩
        obtain ⟨y, hye⟩ : ∃ y, y = at0 ys k := ⟨_, rfl⟩
        have HX : Hid (x = at0 xs k) := hxe
        have HY : Hid (y = at0 ys k) := hye
        rw [← hxe] at hk1
        rw [← hye] at hk2
        clear hxe hye
        have hi1 : (k : Int) < (xs.length : Int) := by omega
        have hi2 : (k : Int) < (ys.length : Int) := by omega
        by_cases he : x = y
        · have hdd : ((x : Int) != (y : Int)) = false := by simp [he]
          have HE : Hid (x = y) := he
          clear he
          go_wp2
          go_quiet (fail)
          go_wp2
          go_roundw
          case rel =>
            refine ⟨k + 1, by omega, by go_num, fun i hi => ?_, below_drewN hbl _⟩
            by_cases e : i = k
            · subst e; rw [← HX.out, ← HY.out]; exact HE.out
            · exact hto i (by omega)
          case measure => simp [intOf]; omega
        · have hdd : ((x : Int) != (y : Int)) = true := by simp; omega
          have HE : Hid (x ≠ y) := he
          clear he
          go_wp2
          go_quiet (fail)
          go_wp2
          go_ret
          have hne : decide (xs = ys) = false := decide_eq_false (fun e => HE.out (by rw [HX.out, HY.out, e]))
          rw [hne]
          exact ⟨rfl, below_drewN hbl _⟩
      · go_wp2
        go_ret
        have he : k = xs.length := by omega
        subst he
        have heq : decide (xs = ys) = true := decide_eq_true (same_of HL.out hto)
        rw [heq]
        exact ⟨rfl, hbl⟩
  · have hd : ((xs.length : Int) != (ys.length : Int)) = true := by simp; omega
    have hne : decide (xs = ys) = false := decide_eq_false (fun e => hlen (by rw [e]))
    rw [hne]
    clear hlen
    go_enter Try.func12, Try.ntmps12
    go_wp2
    go_ret
    exact ⟨rfl, Below.refl _ _⟩

theorem sortsI12 : SortsI 12 := fun B v l w hrow hl => by
  rcases hrow.2 with ⟨rfl, hz⟩ | ⟨g, cap, cur, rfl, hb, hh, hn, hcap, hsz, htake⟩
  · have he : l = [] := List.eq_nil_of_length_eq_zero hz
    subst he
    refine (sort_noneI none 0 w).mono ?_
    rintro e w' ⟨rfl, rfl⟩
    exact ⟨rfl, [], List.Perm.refl _, fun p q _ _ h => by simp at h, hrow, World.grownBy.refl _ _⟩
  · have hB : Blk .i64 3 w g l (cur.toList.drop l.length) := by
      unfold Blk
      rw [hh]
      have e : l.map (encK .i64) = l.map encI := rfl
      rw [e, ← htake, Nat.mul_one, List.take_append_drop]
    refine (sort_small_int g l.length cap l _ w hB rfl hl).mono ?_
    rintro e w' ⟨rfl, l', hp, hs, hB2, hg⟩
    have hle := hp.length_eq
    refine ⟨rfl, l', hp, by rw [hle]; exact hs, ?_, hg⟩
    refine ⟨by simp, .inr ⟨g, cap, _, by rw [hle], hb, hB2, by omega, hcap, by simp [hle]; omega, ?_⟩⟩
    rw [Nat.mul_one]
    have e : l'.length = (l'.map (encK .i64)).length := by simp
    rw [e]
    exact List.take_left

/-- A list of literals that was just laid. -/
theorem row_new (w : World) (cs : Array Value) (zs : List Nat) (h : cs = (zs.map encU).toArray) : Row (w.alloc (.cells cs 36)) (some ⟨w.heap.size, 0, none⟩) zs := by
  subst h
  refine .inr ⟨w.heap.size, 0, rfl, by simp, fun i hi => ?_⟩
  rw [Nat.zero_add, cell_of_row _ _ _ _ _ _ (heap_alloc_new w _), List.getElem?_toArray]
  have := map_at0 (q := .u64) hi []
  rw [List.append_nil] at this
  exact this

theorem strict_eq {C D : List Nat} (hC : C.Pairwise (· < ·)) (hD : D.Pairwise (· < ·)) (h : ∀ x, x ∈ C ↔ x ∈ D) : C = D :=
  List.Perm.eq_of_pairwise (le := (· < ·)) (fun a b _ _ h1 h2 => by omega) hC hD ((List.perm_ext_iff_of_nodup (hC.imp (fun h => Nat.ne_of_lt h)) (hD.imp (fun h => Nat.ne_of_lt h))).2 h)

theorem covers_count {C : List Nat} {fa : Nat → List Nat} (hm : ∀ x, x ∈ C ↔ x ∈ [0, 1, 2, 3]) (hs : ∀ i, i + 1 < C.length → at0 C i < at0 C (i + 1)) (hA : Above [0, 1, 2, 3] C fa C.length) : (prsTo [0, 1, 2, 3] fa 4).length = 4 := by
  have hC : C = [0, 1, 2, 3] := strict_eq (strict_nodup hs) (by decide) hm
  subst hC
  have h0 := hA.1 0 (by decide)
  have h1 := hA.1 1 (by decide)
  have h2 := hA.1 2 (by decide)
  have h3 := hA.1 3 (by decide)
  have e : (prsTo [0, 1, 2, 3] fa 4).length = (fa (at0 [0, 1, 2, 3] 0)).length + (fa (at0 [0, 1, 2, 3] 1)).length + (fa (at0 [0, 1, 2, 3] 2)).length + (fa (at0 [0, 1, 2, 3] 3)).length := by
    have r : List.range 4 = [0, 1, 2, 3] := rfl
    unfold prsTo
    rw [r]
    simp [Nat.add_assoc]
  rw [e, h0, h1, h2, h3]
  decide

theorem inCl12 (x : Nat) : InCl [1, 2] x ↔ x ∈ [0, 1, 2, 3] := by
  constructor
  · intro h
    refine h.mem (S := [0, 1, 2, 3]) (by decide) ?_
    unfold ClosedL
    decide
  · intro h
    have h1 : InCl [1, 2] 1 := .base (by decide)
    have h2 : InCl [1, 2] 2 := .base (by decide)
    have h3 := (h1.step h2).1
    have h0 := (h1.step h2).2
    simp at h
    rcases h with rfl | rfl | rfl | rfl
    · exact h0
    · exact h1
    · exact h2
    · exact h3

theorem close12 {C : List Nat} (h : IsCl [1, 2] C) : C = [0, 1, 2, 3] :=
  strict_eq (strict_nodup (strict_of_sorted h.nodup h.rising)) (by decide) (fun x => (h.mem x).trans (inCl12 x))
theorem few12 {S : List Nat} (hn : S.Nodup) (h : ∀ x ∈ S, InCl [1, 2] x) : S.length ≤ 4 :=
  hn.length_le_of_subset (l₂ := [0, 1, 2, 3]) (fun x hx => (inCl12 x).1 (h x hx))

end Go.Proofs.Ythclmkmajlinhab
