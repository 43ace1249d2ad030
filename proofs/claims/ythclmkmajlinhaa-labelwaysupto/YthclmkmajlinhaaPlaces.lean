/- Rows of ints; at which places labels of a kind stand. -/
import Derived.Test.YthclmkmajlinhaaAwake2
import Derived.Test.YthclmkmajlinhaaWalk4
namespace Go.Proofs.Ythclmkmajlinhaa
open Go.RowKit

/-- A row of ints that are not below 0. -/
def RowI (w : World) (a : Option Addr) (zs : List Nat) : Prop :=
  zs.length = 0 ∨ ∃ b o, a = some ⟨b, o, none⟩ ∧ b < w.heap.size ∧ ∀ i, i < zs.length → w.cell? ⟨b, o + i, none⟩ = some (.int .i64 ((at0 zs i : Nat) : Int))

theorem RowI.below {w w' : World} {a : Option Addr} {zs : List Nat} (h : RowI w a zs) (hb : Below w.heap.size w w') : RowI w' a zs := by
  rcases h with h | ⟨b, o, e, hlt, hc⟩
  · exact .inl h
  · exact .inr ⟨b, o, e, Nat.lt_of_lt_of_le hlt hb.size, fun i hi => by rw [hb.cell (p := ⟨b, o + i, none⟩) hlt]; exact hc i hi⟩

theorem RowI.here {w : World} {a : Option Addr} {zs : List Nat} (h : RowI w a zs) {i : Nat} (hi : i < zs.length) :
    ∃ b o, a = some ⟨b, o, none⟩ ∧ b < w.heap.size ∧ ∀ i, i < zs.length → w.cell? ⟨b, o + i, none⟩ = some (.int .i64 ((at0 zs i : Nat) : Int)) := by
  rcases h with h | h
  · omega
  · exact h

theorem rowI_of_owns {w : World} {base : Nat} {v : Value} {zs : List Nat} (h : w.ownsRow base 3 1 v zs.length (zs.map encI)) : ∃ a cap, v = .slice a zs.length cap ∧ RowI w a zs ∧ (zs.length ≤ cap) := by
  rcases h.2 with ⟨rfl, h0⟩ | ⟨g, cap, cur, rfl, _, hh, hn, _, _, ht⟩
  · exact ⟨none, 0, by rw [h0], .inl h0, by omega⟩
  · refine ⟨_, cap, rfl, .inr ⟨g, 0, rfl, (Array.getElem?_eq_some_iff.1 hh).1, fun i hi => ?_⟩, hn⟩
    rw [Nat.zero_add, cell_of_row _ _ _ _ _ _ hh]
    have h3 : (cur.toList.take (zs.length * 1))[i]? = (zs.map encI)[i]? := by rw [ht]
    rw [List.getElem?_take_of_lt (by omega)] at h3
    rw [← Array.getElem?_toList, h3]
    have := map_at0 (q := .i64) hi []
    rw [List.append_nil] at this
    exact this

set_option maxHeartbeats 1000000 in
theorem sameInts_any (a b : Option Addr) (ca cb : Nat) (xs ys : List Nat) (w : World) (hx : RowI w a xs) (hy : RowI w b ys) (hl : xs.length ≤ maxLen) :
    Calls Try.prog 14 #[.slice a xs.length ca, .slice b ys.length cb] w fun e w' => e = .returned (.bool (decide (xs = ys))) ∧ Below w.heap.size w w' := by
  unfold maxLen at hl
  by_cases hlen : xs.length = ys.length
  · have hd : ((xs.length : Int) != (ys.length : Int)) = false := by simp [hlen]
    have HL : Hid (xs.length = ys.length) := hlen
    have hl2 : (xs.length : Int) ≤ (ys.length : Int) := by omega
    clear hlen
    go_enter Try.func14, Try.ntmps14
    go_wp2
    go_loopw [5] (fun i wr => ∃ k : Nat, k ≤ xs.length ∧ i = .int .i64 k ∧ Hid (sameTo xs ys k) ∧ Below w.heap.size w wr) (fun i _ => xs.length - (intOf i).toNat)
    case atStart => exact ⟨0, by omega, rfl, fun i hi => by omega, Below.refl _ _⟩
    case round =>
      obtain ⟨k, hk, rfl, hto, hbl⟩ := hrel
      by_cases hlt : k < xs.length
      · obtain ⟨b1, o1, rfl, _, hc1⟩ := (hx.below hbl).here hlt
        obtain ⟨b2, o2, rfl, _, hc2⟩ := (hy.below hbl).here (i := k) (by have := HL.out; omega)
        have hk1 := hc1 k hlt
        have hk2 := hc2 k (by have := HL.out; omega)
        clear hc1 hc2
        obtain ⟨x, hxe⟩ : ∃ x, x = at0 xs k := ⟨_, rfl⟩
        obtain ⟨y, hye⟩ : ∃ y, y = at0 ys k := ⟨_, rfl⟩
        have HX : Hid (x = at0 xs k) := hxe
        have HY : Hid (y = at0 ys k) := hye
        rw [← hxe] at hk1
        rw [← hye] at hk2
        clear hxe hye
        have hi1 : (k : Int) < (xs.length : Int) := by omega
        have hi2 : (k : Int) < (ys.length : Int) := by omega
        by_cases he : x = y
        · have hdd : ((x : Int) != (y : Int)) = false := by simp [he]
          have HE : Hid (x = y) := he
          clear he
          go_wp2
          go_quiet (fail)
          go_wp2
          go_roundw
          case rel =>
            refine ⟨k + 1, by omega, by go_num, fun i hi => ?_, below_drewN hbl _⟩
            by_cases e : i = k
            · subst e; rw [← HX.out, ← HY.out]; exact HE.out
            · exact hto i (by omega)
          case measure => simp [intOf]; omega
        · have hdd : ((x : Int) != (y : Int)) = true := by simp; omega
          have HE : Hid (x ≠ y) := he
          clear he
          go_wp2
          go_quiet (fail)
          go_wp2
          go_ret
          have hne : decide (xs = ys) = false := decide_eq_false (fun e => HE.out (by rw [HX.out, HY.out, e]))
          rw [hne]
          exact ⟨rfl, below_drewN hbl _⟩
      · go_wp2
        go_ret
        have he : k = xs.length := by omega
        subst he
        have heq : decide (xs = ys) = true := decide_eq_true (same_of HL.out hto)
        rw [heq]
        exact ⟨rfl, hbl⟩
  · have hd : ((xs.length : Int) != (ys.length : Int)) = true := by simp; omega
    have hne : decide (xs = ys) = false := decide_eq_false (fun e => hlen (by rw [e]))
    rw [hne]
    clear hlen
    go_enter Try.func14, Try.ntmps14
    go_wp2
    go_ret
    exact ⟨rfl, Below.refl _ _⟩

/-- The places among the first k at which p holds. -/
def plOf (p : Nat → Bool) (zs : List Nat) (k : Nat) : List Nat := (List.range k).filter fun i => p (at0 zs i)
theorem plOf_yes {p : Nat → Bool} {zs : List Nat} {k z : Nat} (hz : z = at0 zs k) (h : p z = true) : plOf p zs (k + 1) = plOf p zs k ++ [k] := by
  subst hz
  unfold plOf; rw [List.range_succ, List.filter_append]; simp [h]
theorem plOf_no {p : Nat → Bool} {zs : List Nat} {k z : Nat} (hz : z = at0 zs k) (h : p z = false) : plOf p zs (k + 1) = plOf p zs k := by
  subst hz
  unfold plOf; rw [List.range_succ, List.filter_append]; simp [h]
theorem plOf_len (p : Nat → Bool) (zs : List Nat) (k : Nat) : (plOf p zs k).length ≤ k := by
  have := List.length_filter_le (fun i => p (at0 zs i)) (List.range k)
  simpa [plOf] using this

set_option maxHeartbeats 400000 in
theorem down1_any (y x B : Nat) (w : World) (hy : W64 y) (hx : W64 x) (hc : w.cell? ⟨B, 0, none⟩ = some (.int .u64 (x : Int))) :
    Calls Try.prog 51 #[.int .u64 (y : Int), .pointer (some ⟨B, 0, none⟩)] w fun e w' => e = .returned (.bool (lq y x)) ∧ w' = w := by
  go_enter Try.func51, Try.ntmps51
  go_wp2_with (go_at_call 25; refine (leq_any _ _ _ hy hx).mono ?_; rintro e w' ⟨rfl, rfl⟩)
  go_ret
  exact ⟨rfl, rfl⟩

set_option maxHeartbeats 400000 in
theorem up1_any (y x B : Nat) (w : World) (hy : W64 y) (hx : W64 x) (hc : w.cell? ⟨B, 0, none⟩ = some (.int .u64 (x : Int))) :
    Calls Try.prog 52 #[.int .u64 (y : Int), .pointer (some ⟨B, 0, none⟩)] w fun e w' => e = .returned (.bool (lq x y)) ∧ w' = w := by
  go_enter Try.func52, Try.ntmps52
  go_wp2_with (go_at_call 25; refine (leq_any _ _ _ hx hy).mono ?_; rintro e w' ⟨rfl, rfl⟩)
  go_ret
  exact ⟨rfl, rfl⟩

set_option maxHeartbeats 1000000 in
theorem placesD_any (x B : Nat) (a : Option Addr) (cap : Nat) (zs : List Nat) (w : World) (hx : W64 x) (hr : Row w a zs) (h64 : All64 zs) (hl : 8 * zs.length ≤ 140737488355328) (hB : B < w.heap.size) (hc : w.cell? ⟨B, 0, none⟩ = some (.int .u64 (x : Int))) :
    Calls Try.prog 50 #[.slice a zs.length cap, .func (.func 51) #[] #[.pointer (some ⟨B, 0, none⟩)]] w fun e w' => (∃ v, e = .returned v ∧ w'.ownsRow w.heap.size 3 1 v (plOf (fun y => lq y x) zs zs.length).length ((plOf (fun y => lq y x) zs zs.length).map encI)) ∧ Below w.heap.size w w' := by
  obtain ⟨i0, hi, hz0, hz1, hz2⟩ := info_parts infoInt
  have hl63 : (zs.length : Int) ≤ 9223372036854775807 := by omega
  go_enter Try.func50, Try.ntmps50
  go_wp2
  go_loopw [5, 10] (fun v i wr => ∃ k : Nat, k ≤ zs.length ∧ i = .int .i64 k ∧ wr.ownsRow w.heap.size 3 1 v (plOf (fun y => lq y x) zs k).length ((plOf (fun y => lq y x) zs k).map encI) ∧ Below w.heap.size w wr) (fun _ i _ => zs.length - (intOf i).toNat)
  case atStart => exact ⟨0, by omega, rfl, World.ownsRow_nil _ _ _ _, Below.refl _ _⟩
  case round =>
    obtain ⟨k, hk, rfl, hown, hbl⟩ := hrel
    by_cases hlt : k < zs.length
    · obtain ⟨b, o, rfl, hbw, hcc⟩ := (hr.below hbl).here hlt
      have hck := hcc k hlt
      have hcB : wr.cell? ⟨B, 0, none⟩ = some (.int .u64 (x : Int)) := by rw [hbl.cell (p := ⟨B, 0, none⟩) hB]; exact hc
      clear hcc
      obtain ⟨z, hz⟩ : ∃ z, z = at0 zs k := ⟨_, rfl⟩
      have hz64 : W64 z := hz ▸ h64.at k
      have HZ : Hid (z = at0 zs k) := hz
      rw [← hz] at hck
      clear hz
      have hlen := plOf_len (fun y => lq y x) zs k
      cases h1 : lq z x
      · have HST : Hid (plOf (fun y => lq y x) zs (k + 1) = plOf (fun y => lq y x) zs k) := plOf_no HZ.out h1
        generalize plOf (fun y => lq y x) zs k = F at *
        go_wp2_with (go_at_call 51; refine (down1_any _ _ _ _ hz64 hx hcB).mono ?_; rintro e w' ⟨rfl, rfl⟩)
        go_roundw
        case rel => exact ⟨k + 1, by omega, by go_num, by rw [HST.out]; exact hown, hbl⟩
        case measure => simp [intOf]; omega
      · have HST : Hid (plOf (fun y => lq y x) zs (k + 1) = plOf (fun y => lq y x) zs k ++ [k]) := plOf_yes HZ.out h1
        generalize plOf (fun y => lq y x) zs k = F at *
        have hn63 : F.length + 1 ≤ maxLen := by unfold maxLen; omega
        have hbs := hbl.size
        have hone : ∀ u ∈ [Value.int .i64 (k : Int)], u.oneCell' = true := by simp [Value.oneCell']
        go_wp2_with (first | (go_at_call 51; refine (down1_any _ _ _ _ hz64 hx hcB).mono ?_; rintro e w' ⟨rfl, hq⟩; have hq2 := hq.symm; subst hq2) | (at_builtin; refine wpList_append_own_at _ rfl _ _ 32 rfl w.heap.size 3 i0 (.int .i64 0) 1 8 Try.underlying32 hi hz0 hz1 hz2 rfl (by omega) _ _ _ rfl (hown.alloc _) ⟨wr.heap.size, 0, none⟩ 1 1 [.int .i64 (k : Int)] rfl rfl (cell_one_new wr (.int .i64 (k : Int)) 3) hone hn63 (by omega) (by simp; omega) ?_; intro v4 w4 hown4 hgrow4 hnil4 hat4))
        have hb2 : Below w.heap.size w (wr.alloc (.cells #[.int .i64 (k : Int)] 3)) := hbl.alloc hbs _
        go_roundw
        case rel => exact ⟨k + 1, by omega, by go_num, by rw [HST.out]; simpa [encI] using hown4, hb2.grown hgrow4 hb2.size (fun j e => own_ge hown e)⟩
        case measure => simp [intOf]; omega
    · go_wp2
      go_ret
      have he : k = zs.length := by omega
      subst he
      exact ⟨⟨_, rfl, hown⟩, hbl⟩

set_option maxHeartbeats 400000 in
theorem down_any (x : Nat) (a : Option Addr) (cap : Nat) (zs : List Nat) (w : World) (hx : W64 x) (hr : Row w a zs) (h64 : All64 zs) (hl : 8 * zs.length ≤ 140737488355328) :
    Calls Try.prog 23 #[.slice a zs.length cap, .int .u64 (x : Int)] w fun e w' => (∃ g c, e = .returned (.slice g (plOf (fun y => lq y x) zs zs.length).length c) ∧ RowI w' g (plOf (fun y => lq y x) zs zs.length)) ∧ Below w.heap.size w w' := by
  have hp := placesD_any x w.heap.size a cap zs (w.alloc (.cells #[.int .u64 (x : Int)] 36)) hx (hr.below ((Below.refl _ _).alloc (Nat.le_refl _) _)) h64 hl (by simp) (by rw [cell_of_row _ _ _ _ _ _ (heap_alloc_new w _)]; rfl)
  go_enter Try.func23, Try.ntmps23
  go_wp2_with fail
  refine hp.mono ?_
  rintro e w1 ⟨⟨v, rfl, hown⟩, hb⟩
  obtain ⟨g, c, rfl, hri, _⟩ := rowI_of_owns hown
  go_wp2
  go_ret
  exact ⟨⟨g, c, rfl, hri⟩, (((Below.refl _ _).alloc (Nat.le_refl _) _).trans (hb.mono (by simp)))⟩

set_option maxHeartbeats 1000000 in
theorem rdown_any (x : Nat) (a : Option Addr) (cap : Nat) (zs : List Nat) (w : World) (hx : W64 x) (hr : Row w a zs) (h64 : All64 zs) (hl : 8 * zs.length ≤ 140737488355328) :
    Calls Try.prog 53 #[.slice a zs.length cap, .int .u64 (x : Int)] w fun e w' => (∃ g c, e = .returned (.slice g (plOf (fun y => lq y x) zs zs.length).length c) ∧ RowI w' g (plOf (fun y => lq y x) zs zs.length)) ∧ Below w.heap.size w w' := by
  obtain ⟨i0, hi, hz0, hz1, hz2⟩ := info_parts infoInt
  have hl63 : (zs.length : Int) ≤ 9223372036854775807 := by omega
  go_enter Try.func53, Try.ntmps53
  go_wp2
  go_loopw [5, 6] (fun v i wr => ∃ k : Nat, k ≤ zs.length ∧ i = .int .i64 k ∧ wr.ownsRow w.heap.size 3 1 v (plOf (fun y => lq y x) zs k).length ((plOf (fun y => lq y x) zs k).map encI) ∧ Below w.heap.size w wr) (fun _ i _ => zs.length - (intOf i).toNat)
  case atStart => exact ⟨0, by omega, rfl, World.ownsRow_nil _ _ _ _, Below.refl _ _⟩
  case round =>
    obtain ⟨k, hk, rfl, hown, hbl⟩ := hrel
    by_cases hlt : k < zs.length
    · obtain ⟨b, o, rfl, hbw, hcc⟩ := (hr.below hbl).here hlt
      have hck := hcc k hlt
      clear hcc
      obtain ⟨z, hz⟩ : ∃ z, z = at0 zs k := ⟨_, rfl⟩
      have hz64 : W64 z := hz ▸ h64.at k
      have HZ : Hid (z = at0 zs k) := hz
      rw [← hz] at hck
      clear hz
      have hlen := plOf_len (fun y => lq y x) zs k
      cases h1 : lq z x
      · have HST : Hid (plOf (fun y => lq y x) zs (k + 1) = plOf (fun y => lq y x) zs k) := plOf_no HZ.out h1
        generalize plOf (fun y => lq y x) zs k = F at *
        go_wp2_with (go_at_call 69; refine (rleq_any _ _ _ hz64 hx).mono ?_; rintro e w' ⟨rfl, rfl⟩)
        go_roundw
        case rel => exact ⟨k + 1, by omega, by go_num, by rw [HST.out]; exact hown, hbl⟩
        case measure => simp [intOf]; omega
      · have HST : Hid (plOf (fun y => lq y x) zs (k + 1) = plOf (fun y => lq y x) zs k ++ [k]) := plOf_yes HZ.out h1
        generalize plOf (fun y => lq y x) zs k = F at *
        have hn63 : F.length + 1 ≤ maxLen := by unfold maxLen; omega
        have hbs := hbl.size
        have hone : ∀ u ∈ [Value.int .i64 (k : Int)], u.oneCell' = true := by simp [Value.oneCell']
        go_wp2_with (first | (go_at_call 69; refine (rleq_any _ _ _ hz64 hx).mono ?_; rintro e w' ⟨rfl, hq⟩; have hq2 := hq.symm; subst hq2) | (at_builtin; refine wpList_append_own_at _ rfl _ _ 32 rfl w.heap.size 3 i0 (.int .i64 0) 1 8 Try.underlying32 hi hz0 hz1 hz2 rfl (by omega) _ _ _ rfl (hown.alloc _) ⟨wr.heap.size, 0, none⟩ 1 1 [.int .i64 (k : Int)] rfl rfl (cell_one_new wr (.int .i64 (k : Int)) 3) hone hn63 (by omega) (by simp; omega) ?_; intro v4 w4 hown4 hgrow4 hnil4 hat4))
        have hb2 : Below w.heap.size w (wr.alloc (.cells #[.int .i64 (k : Int)] 3)) := hbl.alloc hbs _
        go_roundw
        case rel => exact ⟨k + 1, by omega, by go_num, by rw [HST.out]; simpa [encI] using hown4, hb2.grown hgrow4 hb2.size (fun j e => own_ge hown e)⟩
        case measure => simp [intOf]; omega
    · go_wp2
      go_ret
      have he : k = zs.length := by omega
      subst he
      obtain ⟨g, c, rfl, hri, _⟩ := rowI_of_owns hown
      exact ⟨⟨g, c, rfl, hri⟩, hbl⟩

set_option maxHeartbeats 1000000 in
theorem placesU_any (x B : Nat) (a : Option Addr) (cap : Nat) (zs : List Nat) (w : World) (hx : W64 x) (hr : Row w a zs) (h64 : All64 zs) (hl : 8 * zs.length ≤ 140737488355328) (hB : B < w.heap.size) (hc : w.cell? ⟨B, 0, none⟩ = some (.int .u64 (x : Int))) :
    Calls Try.prog 50 #[.slice a zs.length cap, .func (.func 52) #[] #[.pointer (some ⟨B, 0, none⟩)]] w fun e w' => (∃ v, e = .returned v ∧ w'.ownsRow w.heap.size 3 1 v (plOf (fun y => lq x y) zs zs.length).length ((plOf (fun y => lq x y) zs zs.length).map encI)) ∧ Below w.heap.size w w' := by
  obtain ⟨i0, hi, hz0, hz1, hz2⟩ := info_parts infoInt
  have hl63 : (zs.length : Int) ≤ 9223372036854775807 := by omega
  go_enter Try.func50, Try.ntmps50
  go_wp2
  go_loopw [5, 10] (fun v i wr => ∃ k : Nat, k ≤ zs.length ∧ i = .int .i64 k ∧ wr.ownsRow w.heap.size 3 1 v (plOf (fun y => lq x y) zs k).length ((plOf (fun y => lq x y) zs k).map encI) ∧ Below w.heap.size w wr) (fun _ i _ => zs.length - (intOf i).toNat)
  case atStart => exact ⟨0, by omega, rfl, World.ownsRow_nil _ _ _ _, Below.refl _ _⟩
  case round =>
    obtain ⟨k, hk, rfl, hown, hbl⟩ := hrel
    by_cases hlt : k < zs.length
    · obtain ⟨b, o, rfl, hbw, hcc⟩ := (hr.below hbl).here hlt
      have hck := hcc k hlt
      have hcB : wr.cell? ⟨B, 0, none⟩ = some (.int .u64 (x : Int)) := by rw [hbl.cell (p := ⟨B, 0, none⟩) hB]; exact hc
      clear hcc
      obtain ⟨z, hz⟩ : ∃ z, z = at0 zs k := ⟨_, rfl⟩
      have hz64 : W64 z := hz ▸ h64.at k
      have HZ : Hid (z = at0 zs k) := hz
      rw [← hz] at hck
      clear hz
      have hlen := plOf_len (fun y => lq x y) zs k
      cases h1 : lq x z
      · have HST : Hid (plOf (fun y => lq x y) zs (k + 1) = plOf (fun y => lq x y) zs k) := plOf_no HZ.out h1
        generalize plOf (fun y => lq x y) zs k = F at *
        go_wp2_with (go_at_call 52; refine (up1_any _ _ _ _ hz64 hx hcB).mono ?_; rintro e w' ⟨rfl, rfl⟩)
        go_roundw
        case rel => exact ⟨k + 1, by omega, by go_num, by rw [HST.out]; exact hown, hbl⟩
        case measure => simp [intOf]; omega
      · have HST : Hid (plOf (fun y => lq x y) zs (k + 1) = plOf (fun y => lq x y) zs k ++ [k]) := plOf_yes HZ.out h1
        generalize plOf (fun y => lq x y) zs k = F at *
        have hn63 : F.length + 1 ≤ maxLen := by unfold maxLen; omega
        have hbs := hbl.size
        have hone : ∀ u ∈ [Value.int .i64 (k : Int)], u.oneCell' = true := by simp [Value.oneCell']
        go_wp2_with (first | (go_at_call 52; refine (up1_any _ _ _ _ hz64 hx hcB).mono ?_; rintro e w' ⟨rfl, hq⟩; have hq2 := hq.symm; subst hq2) | (at_builtin; refine wpList_append_own_at _ rfl _ _ 32 rfl w.heap.size 3 i0 (.int .i64 0) 1 8 Try.underlying32 hi hz0 hz1 hz2 rfl (by omega) _ _ _ rfl (hown.alloc _) ⟨wr.heap.size, 0, none⟩ 1 1 [.int .i64 (k : Int)] rfl rfl (cell_one_new wr (.int .i64 (k : Int)) 3) hone hn63 (by omega) (by simp; omega) ?_; intro v4 w4 hown4 hgrow4 hnil4 hat4))
        have hb2 : Below w.heap.size w (wr.alloc (.cells #[.int .i64 (k : Int)] 3)) := hbl.alloc hbs _
        go_roundw
        case rel => exact ⟨k + 1, by omega, by go_num, by rw [HST.out]; simpa [encI] using hown4, hb2.grown hgrow4 hb2.size (fun j e => own_ge hown e)⟩
        case measure => simp [intOf]; omega
    · go_wp2
      go_ret
      have he : k = zs.length := by omega
      subst he
      exact ⟨⟨_, rfl, hown⟩, hbl⟩

set_option maxHeartbeats 400000 in
theorem up_any (x : Nat) (a : Option Addr) (cap : Nat) (zs : List Nat) (w : World) (hx : W64 x) (hr : Row w a zs) (h64 : All64 zs) (hl : 8 * zs.length ≤ 140737488355328) :
    Calls Try.prog 24 #[.slice a zs.length cap, .int .u64 (x : Int)] w fun e w' => (∃ g c, e = .returned (.slice g (plOf (fun y => lq x y) zs zs.length).length c) ∧ RowI w' g (plOf (fun y => lq x y) zs zs.length)) ∧ Below w.heap.size w w' := by
  have hp := placesU_any x w.heap.size a cap zs (w.alloc (.cells #[.int .u64 (x : Int)] 36)) hx (hr.below ((Below.refl _ _).alloc (Nat.le_refl _) _)) h64 hl (by simp) (by rw [cell_of_row _ _ _ _ _ _ (heap_alloc_new w _)]; rfl)
  go_enter Try.func24, Try.ntmps24
  go_wp2_with fail
  refine hp.mono ?_
  rintro e w1 ⟨⟨v, rfl, hown⟩, hb⟩
  obtain ⟨g, c, rfl, hri, _⟩ := rowI_of_owns hown
  go_wp2
  go_ret
  exact ⟨⟨g, c, rfl, hri⟩, (((Below.refl _ _).alloc (Nat.le_refl _) _).trans (hb.mono (by simp)))⟩

set_option maxHeartbeats 1000000 in
theorem rup_any (x : Nat) (a : Option Addr) (cap : Nat) (zs : List Nat) (w : World) (hx : W64 x) (hr : Row w a zs) (h64 : All64 zs) (hl : 8 * zs.length ≤ 140737488355328) :
    Calls Try.prog 54 #[.slice a zs.length cap, .int .u64 (x : Int)] w fun e w' => (∃ g c, e = .returned (.slice g (plOf (fun y => lq x y) zs zs.length).length c) ∧ RowI w' g (plOf (fun y => lq x y) zs zs.length)) ∧ Below w.heap.size w w' := by
  obtain ⟨i0, hi, hz0, hz1, hz2⟩ := info_parts infoInt
  have hl63 : (zs.length : Int) ≤ 9223372036854775807 := by omega
  go_enter Try.func54, Try.ntmps54
  go_wp2
  go_loopw [5, 6] (fun v i wr => ∃ k : Nat, k ≤ zs.length ∧ i = .int .i64 k ∧ wr.ownsRow w.heap.size 3 1 v (plOf (fun y => lq x y) zs k).length ((plOf (fun y => lq x y) zs k).map encI) ∧ Below w.heap.size w wr) (fun _ i _ => zs.length - (intOf i).toNat)
  case atStart => exact ⟨0, by omega, rfl, World.ownsRow_nil _ _ _ _, Below.refl _ _⟩
  case round =>
    obtain ⟨k, hk, rfl, hown, hbl⟩ := hrel
    by_cases hlt : k < zs.length
    · obtain ⟨b, o, rfl, hbw, hcc⟩ := (hr.below hbl).here hlt
      have hck := hcc k hlt
      clear hcc
      obtain ⟨z, hz⟩ : ∃ z, z = at0 zs k := ⟨_, rfl⟩
      have hz64 : W64 z := hz ▸ h64.at k
      have HZ : Hid (z = at0 zs k) := hz
      rw [← hz] at hck
      clear hz
      have hlen := plOf_len (fun y => lq x y) zs k
      cases h1 : lq x z
      · have HST : Hid (plOf (fun y => lq x y) zs (k + 1) = plOf (fun y => lq x y) zs k) := plOf_no HZ.out h1
        generalize plOf (fun y => lq x y) zs k = F at *
        go_wp2_with (go_at_call 69; refine (rleq_any _ _ _ hx hz64).mono ?_; rintro e w' ⟨rfl, rfl⟩)
        go_roundw
        case rel => exact ⟨k + 1, by omega, by go_num, by rw [HST.out]; exact hown, hbl⟩
        case measure => simp [intOf]; omega
      · have HST : Hid (plOf (fun y => lq x y) zs (k + 1) = plOf (fun y => lq x y) zs k ++ [k]) := plOf_yes HZ.out h1
        generalize plOf (fun y => lq x y) zs k = F at *
        have hn63 : F.length + 1 ≤ maxLen := by unfold maxLen; omega
        have hbs := hbl.size
        have hone : ∀ u ∈ [Value.int .i64 (k : Int)], u.oneCell' = true := by simp [Value.oneCell']
        go_wp2_with (first | (go_at_call 69; refine (rleq_any _ _ _ hx hz64).mono ?_; rintro e w' ⟨rfl, hq⟩; have hq2 := hq.symm; subst hq2) | (at_builtin; refine wpList_append_own_at _ rfl _ _ 32 rfl w.heap.size 3 i0 (.int .i64 0) 1 8 Try.underlying32 hi hz0 hz1 hz2 rfl (by omega) _ _ _ rfl (hown.alloc _) ⟨wr.heap.size, 0, none⟩ 1 1 [.int .i64 (k : Int)] rfl rfl (cell_one_new wr (.int .i64 (k : Int)) 3) hone hn63 (by omega) (by simp; omega) ?_; intro v4 w4 hown4 hgrow4 hnil4 hat4))
        have hb2 : Below w.heap.size w (wr.alloc (.cells #[.int .i64 (k : Int)] 3)) := hbl.alloc hbs _
        go_roundw
        case rel => exact ⟨k + 1, by omega, by go_num, by rw [HST.out]; simpa [encI] using hown4, hb2.grown hgrow4 hb2.size (fun j e => own_ge hown e)⟩
        case measure => simp [intOf]; omega
    · go_wp2
      go_ret
      have he : k = zs.length := by omega
      subst he
      obtain ⟨g, c, rfl, hri, _⟩ := rowI_of_owns hown
      exact ⟨⟨g, c, rfl, hri⟩, hbl⟩

theorem idx_if {zs : List Nat} {x : Nat} (h : x ∈ zs) : ∃ n : Nat, idx zs x = (n : Int) := ⟨_, by unfold idx; rw [if_pos h]⟩
theorem idx_not {zs : List Nat} {x : Nat} (h : x ∉ zs) : idx zs x = -1 := by unfold idx; rw [if_neg h]

set_option maxHeartbeats 400000 in
theorem place_yes (a : Option Addr) (cap : Nat) (zs : List Nat) (x : Nat) (w : World) (hr : Row w a zs) (hl : zs.length ≤ maxLen) (n : Nat) (hn : idx zs x = (n : Int)) :
    Calls Try.prog 21 #[.slice a zs.length cap, .int .u64 (x : Int)] w fun e w' => e = .returned (.tuple #[.int .i64 (n : Int), .bool true]) ∧ w' = w := by
  have hi := index_any a cap zs x w hr hl
  rw [hn] at hi
  clear hr hn
  go_enter Try.func21, Try.ntmps21
  go_wp2_with (go_at_call 49; refine hi.mono ?_; rintro e w' ⟨rfl, rfl⟩)
  go_ret2
  exact ⟨rfl, rfl⟩

set_option maxHeartbeats 400000 in
theorem place_no (a : Option Addr) (cap : Nat) (zs : List Nat) (x : Nat) (w : World) (hr : Row w a zs) (hl : zs.length ≤ maxLen) (hm : x ∉ zs) :
    Calls Try.prog 21 #[.slice a zs.length cap, .int .u64 (x : Int)] w fun e w' => e = .returned (.tuple #[.int .i64 0, .bool false]) ∧ w' = w := by
  have hi := index_any a cap zs x w hr hl
  rw [idx_not hm] at hi
  clear hr hm
  go_enter Try.func21, Try.ntmps21
  go_wp2_with (go_at_call 49; refine hi.mono ?_; rintro e w' ⟨rfl, rfl⟩)
  go_ret2
  exact ⟨rfl, rfl⟩

end Go.Proofs.Ythclmkmajlinhaa
