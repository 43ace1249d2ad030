/- The sum, walked: the document's and the program's step, byte, bytes. -/
import Derived.Test.YtkacfpmninmjkaaGreatBt1
import Derived.Test.YtkacfpmninmjkaaGreatSm1
namespace Go.Proofs.YtkacfpmninmjkaaGreat
open Go.RowKit

theorem i_half (v : Nat) : (v : Int) / 2 = ((v / 2 : Nat) : Int) := by omega

set_option maxRecDepth 100000 in
set_option maxHeartbeats 400000 in
theorem rstep_any (v : Nat) (hv : W32 v) (w : World) :
    Calls Tryz.prog 155 #[.int .u32 (v : Int)] w fun e w' => e = .returned (.int .u32 ((stp v : Nat) : Int)) ∧ w' = w := by
  unfold W32 at hv
  have e2 : bits .xor .u32 ((v : Int) / 2) 3988292384 = (((v / 2) ^^^ 3988292384 : Nat) : Int) := by
    rw [i_half]; exact u32_xor_nat _ 3988292384 (by omega) (by omega)
  by_cases h : v % 2 = 1
  · have hs : Hid (stp v = (v / 2) ^^^ 3988292384) := by show _ = _; unfold stp; rw [if_pos h]
    have hd : ((v : Int) % 2 == 1) = true := by simp; omega
    go_enter Tryz.func155, Tryz.ntmps155
    go_wp2
    go_ret
    rw [hs.out]; exact ⟨rfl, rfl⟩
  · have hs : Hid (stp v = v / 2) := by show _ = _; unfold stp; rw [if_neg h]
    have hd : ((v : Int) % 2 == 1) = false := by simp; omega
    go_enter Tryz.func155, Tryz.ntmps155
    go_wp2
    go_ret
    rw [hs.out]; exact ⟨by go_num, rfl⟩

theorem i_and1 (v : Nat) (hv : W32 v) : bits .and .u32 (v : Int) 1 = ((v % 2 : Nat) : Int) := by
  have h := u32_and_nat v 1 hv (by omega)
  rw [Nat.and_one_is_mod] at h
  exact h

set_option maxRecDepth 100000 in
set_option maxHeartbeats 400000 in
theorem step_any (v : Nat) (hv : W32 v) (w : World) :
    Calls Tryz.prog 153 #[.int .u32 (v : Int)] w fun e w' => e = .returned (.int .u32 ((stp v : Nat) : Int)) ∧ w' = w := by
  have ea := i_and1 v hv
  unfold W32 at hv
  have e2 : bits .xor .u32 ((v : Int) / 2) 3988292384 = (((v / 2) ^^^ 3988292384 : Nat) : Int) := by
    rw [i_half]; exact u32_xor_nat _ 3988292384 (by omega) (by omega)
  by_cases h : v % 2 = 1
  · have hs : Hid (stp v = (v / 2) ^^^ 3988292384) := by show _ = _; unfold stp; rw [if_pos h]
    have hd : ((v : Int) % 2 == 1) = true := by simp; omega
    go_enter Tryz.func153, Tryz.ntmps153
    go_wp2
    go_ret
    rw [hs.out]; exact ⟨rfl, rfl⟩
  · have hs : Hid (stp v = v / 2) := by show _ = _; unfold stp; rw [if_neg h]
    have hd : ((v : Int) % 2 == 1) = false := by simp; omega
    go_enter Tryz.func153, Tryz.ntmps153
    go_wp2
    go_ret
    rw [hs.out]; exact ⟨by go_num, rfl⟩

set_option maxRecDepth 100000 in
set_option maxHeartbeats 400000 in
theorem rtake_any (v b : Nat) (hv : W32 v) (hb : b < 256) (w : World) :
    Calls Tryz.prog 154 #[.int .u32 (v : Int), .int .u8 (b : Int)] w fun e w' => e = .returned (.int .u32 ((tak v b : Nat) : Int)) ∧ w' = w := by
  have e1 : bits .xor .u32 (v : Int) (b : Int) = ((v ^^^ b : Nat) : Int) := u32_xor_nat _ _ hv (by omega)
  have h32 : W32 (v ^^^ b) := xor32 hv (by unfold W32; omega)
  obtain ⟨X, hX⟩ : ∃ X, X = v ^^^ b := ⟨_, rfl⟩
  have ht : Hid (tak v b = stps 8 X) := by rw [hX]; rfl
  rw [← hX] at e1 h32
  clear hX
  go_enter Tryz.func154, Tryz.ntmps154
  go_wp2
  go_loop [0, 5] (fun r i => ∃ k : Nat, k ≤ 8 ∧ i = .int .i64 (k : Int) ∧ r = .int .u32 ((stps k X : Nat) : Int)) (fun _ i => 8 - (intOf i).toNat)
  case atStart => exact ⟨0, by omega, rfl, rfl⟩
  case round =>
    obtain ⟨k, hk, rfl, rfl⟩ := hrel
    have hY : W32 (stps k X) := stps32 h32
    by_cases hlt : k < 8
    · have hd : decide ((k : Int) < 8) = true := by simp; omega
      have hl : Hid (stps (k + 1) X = stp (stps k X)) := stps_last k X
      obtain ⟨Y, hY0⟩ : ∃ Y, Y = stps k X := ⟨_, rfl⟩
      rw [← hY0] at hY hl
      rw [← hY0]
      clear hY0
      go_wp2_with (go_at_call 155; refine (rstep_any Y hY _).mono ?_; rintro e w' ⟨rfl, rfl⟩)
      go_round
      case rel => exact ⟨k + 1, by omega, by go_num, by rw [hl.out]⟩
      case measure => simp [intOf]; omega
    · have hk8 : k = 8 := by omega
      subst hk8
      go_wp2
      go_ret
      rw [ht.out]; exact ⟨rfl, rfl⟩

theorem takeS_at {zs : List Nat} {k : Nat} (h : k < zs.length) : zs.take (k + 1) = zs.take k ++ [at0 zs k] := by
  rw [List.take_succ_eq_append_getElem h, at0_get h]

set_option maxRecDepth 100000 in
set_option maxHeartbeats 400000 in
theorem rmore_any (s : Nat) (hs : W32 s) (a : Option Addr) (cap : Nat) (zs : List Nat) (w : World) (hr : RowB w a zs) (h8 : All8 zs) (hm : zs.length ≤ maxLen) :
    Calls Tryz.prog 152 #[.int .u32 (s : Int), .slice a zs.length cap] w fun e w' => e = .returned (.int .u32 ((moreN s zs : Nat) : Int)) ∧ w' = w := by
  unfold maxLen at hm
  have e1 : bits .xor .u32 (s : Int) 4294967295 = ((s ^^^ 4294967295 : Nat) : Int) := u32_xor_nat _ 4294967295 hs (by omega)
  have h32 : W32 (s ^^^ 4294967295) := xor32 hs (by unfold W32; omega)
  obtain ⟨X, hX⟩ : ∃ X, X = s ^^^ 4294967295 := ⟨_, rfl⟩
  have ht : Hid (moreN s zs = run X zs ^^^ 4294967295) := by rw [hX]; rfl
  rw [← hX] at e1 h32
  clear hX
  go_enter Tryz.func152, Tryz.ntmps152
  go_wp2
  go_loop [5, 6] (fun r i => ∃ k : Nat, k ≤ zs.length ∧ i = .int .i64 (k : Int) ∧ r = .int .u32 ((run X (zs.take k) : Nat) : Int)) (fun _ i => zs.length - (intOf i).toNat)
  case atStart => exact ⟨0, by omega, rfl, rfl⟩
  case round =>
    obtain ⟨k, hk, rfl, rfl⟩ := hrel
    have hY : W32 (run X (zs.take k)) := run32 h32 (fun b hb => h8 b (List.mem_of_mem_take hb))
    by_cases hlt : k < zs.length
    · have hi1 : (k : Int) < (zs.length : Int) := by omega
      have hl : Hid (run X (zs.take (k + 1)) = tak (run X (zs.take k)) (at0 zs k)) := by rw [takeS_at hlt]; exact run_snoc _ _ _
      have hz8 : at0 zs k < 256 := h8 _ (at0_mem hlt)
      obtain ⟨Y, hY0⟩ : ∃ Y, Y = run X (zs.take k) := ⟨_, rfl⟩
      obtain ⟨b, o, rfl, _, hc⟩ := hr.here hlt
      have hck := hc k hlt
      rw [← hY0] at hY hl
      rw [← hY0]
      clear hY0 hc hr
      go_wp2_with (go_at_call 154; refine (rtake_any Y _ hY hz8 _).mono ?_; rintro e w' ⟨rfl, rfl⟩)
      go_round
      case rel => exact ⟨k + 1, by omega, by go_num, by rw [hl.out]⟩
      case measure => simp [intOf]; omega
    · have hk8 : k = zs.length := by omega
      subst hk8
      rw [List.take_length] at hY ⊢
      have e3 : bits .xor .u32 ((run X zs : Nat) : Int) 4294967295 = ((run X zs ^^^ 4294967295 : Nat) : Int) := u32_xor_nat _ 4294967295 hY (by omega)
      go_wp2
      go_ret
      rw [ht.out]; exact ⟨rfl, rfl⟩

set_option maxRecDepth 100000 in
set_option maxHeartbeats 400000 in
theorem rof_any (a : Option Addr) (cap : Nat) (zs : List Nat) (w : World) (hr : RowB w a zs) (h8 : All8 zs) (hm : zs.length ≤ maxLen) :
    Calls Tryz.prog 139 #[.slice a zs.length cap] w fun e w' => e = .returned (.int .u32 ((moreN 0 zs : Nat) : Int)) ∧ w' = w := by
  have hc := rmore_any 0 (by unfold W32; omega) a cap zs w hr h8 hm
  go_enter Tryz.func139, Tryz.ntmps139
  go_wp2_with (go_at_call 152; refine hc.mono ?_; rintro e w' ⟨rfl, rfl⟩)
  go_ret
  exact ⟨rfl, rfl⟩

/-- A number of 32 bits as a value. -/
def encW (z : Nat) : Value := .int .u32 (z : Int)
/-- Block g holds these numbers of 32 bits. -/
def Tab (t : TypeId) (w : World) (g : Nat) (zs : List Nat) : Prop := w.heap[g]? = some (.cells (zs.map encW).toArray t (0, 0))
theorem Tab.cell {t : TypeId} {w : World} {g : Nat} {zs : List Nat} (h : Tab t w g zs) {i : Nat} (hi : i < zs.length) : w.cell? ⟨g, i, none⟩ = some (.int .u32 ((at0 zs i : Nat) : Int)) := by
  rw [cell_of_row _ _ _ _ _ _ h, List.getElem?_toArray, List.getElem?_map, List.getElem?_eq_getElem hi, at0_get hi]; rfl
theorem Tab.frozen {t : TypeId} {w : World} {g : Nat} {zs : List Nat} (h : Tab t w g zs) (i : Nat) : w.frozen? ⟨g, i, none⟩ = false := frozen_of_row w g i _ _ h
theorem Tab.set {t : TypeId} {w : World} {g : Nat} {zs : List Nat} (h : Tab t w g zs) (i x : Nat) : Tab t (w.setCell ⟨g, i, none⟩ (.int .u32 (x : Int))) g (zs.set i x) := by
  unfold Tab at *
  rw [heap_setCell_same w g i _ _ _ h]
  congr 2
  rw [List.setIfInBounds_toArray, List.map_set]
  rfl
theorem Tab.lt {t : TypeId} {w : World} {g : Nat} {zs : List Nat} (h : Tab t w g zs) : g < w.heap.size := (Array.getElem?_eq_some_iff.1 h).1
theorem grown_set {w w' : World} {g : Nat} (h : w.grownBy w' (some g)) (i : Nat) (v : Value) : w.grownBy (w'.setCell ⟨g, i, none⟩ v) (some g) :=
  ⟨h.os, h.tape, h.output, by simpa using h.size, fun k hk hne => by
    rw [Below.heap_setCell _ _ _ _ (fun e => hne (by rw [e]))]; exact h.block k hk hne⟩

/-- The table of half bytes, its first k entries filled. -/
def halfs (k : Nat) : List Nat := (List.range 16).map fun j => if j < k then stps 4 j else 0
theorem halfs_len (k : Nat) : (halfs k).length = 16 := by simp [halfs]
theorem halfs_at (k i : Nat) (hi : i < 16) : at0 (halfs k) i = if i < k then stps 4 i else 0 := by
  unfold at0 halfs
  rw [List.getD_eq_getElem?_getD, List.getElem?_map, List.getElem?_range hi]; rfl
theorem at0_set {zs : List Nat} {i : Nat} (hi : i < zs.length) (x k : Nat) : at0 (zs.set i x) k = if k = i then x else at0 zs k := by
  unfold at0
  rw [List.getD_eq_getElem?_getD, List.getD_eq_getElem?_getD, List.getElem?_set]
  by_cases e : i = k
  · subst e; rw [if_pos rfl, if_pos hi, if_pos rfl]; rfl
  · rw [if_neg e, if_neg (fun h => e h.symm)]
theorem halfs_set (k : Nat) (hk : k < 16) : (halfs k).set k (stps 4 k) = halfs (k + 1) := by
  apply eq_of_at (by simp [halfs_len])
  intro i h1
  have hi : i < 16 := by rw [List.length_set, halfs_len] at h1; exact h1
  rw [at0_set (by rw [halfs_len]; exact hk), halfs_at _ _ hi, halfs_at _ _ hi]
  by_cases e : i = k
  · subst e; rw [if_pos rfl, if_pos (by omega)]
  · rw [if_neg e]
    by_cases h : i < k
    · rw [if_pos h, if_pos (by omega)]
    · rw [if_neg h, if_neg (by omega)]

set_option maxRecDepth 100000 in
set_option maxHeartbeats 800000 in
theorem fillS_any (g : Nat) (t : TypeId) (w : World) (hB : Tab t w g (halfs 0)) :
    Calls Tryz.prog 142 #[.pointer (some ⟨g, 0, none⟩)] w fun e w' => e = .returned (.tuple #[]) ∧ Tab t w' g (halfs 16) ∧ w.grownBy w' (some g) := by
  go_enter Tryz.func142, Tryz.ntmps142
  go_wp2
  go_loopw [4] (fun i wr => ∃ k : Nat, k ≤ 16 ∧ i = .int .i64 (k : Int) ∧ Tab t wr g (halfs k) ∧ w.grownBy wr (some g)) (fun i _ => 16 - (intOf i).toNat)
  case atStart => exact ⟨0, by omega, rfl, hB, World.grownBy.refl _ _⟩
  case round =>
    obtain ⟨k, hk, rfl, hT, hg⟩ := hrel
    clear hB
    by_cases hlt : k < 16
    · have hd : decide ((k : Int) < 16) = true := by simp; omega
      have hw : IntKind.u32.wrap (k : Int) = (k : Int) := by rw [IntKind.wrap_u32']; omega
      have h32 : W32 k := by unfold W32; omega
      have hfz := hT.frozen k
      have hcell := hT.cell (i := k) (by rw [halfs_len]; exact hlt)
      go_wp2
      go_loop [3, 9] (fun r i => ∃ m : Nat, m ≤ 4 ∧ i = .int .i64 (m : Int) ∧ r = .int .u32 ((stps m k : Nat) : Int)) (fun _ i => 4 - (intOf i).toNat)
      case atStart => exact ⟨0, by omega, rfl, rfl⟩
      case round =>
        obtain ⟨m, hm, rfl, rfl⟩ := hrel
        have hY : W32 (stps m k) := stps32 h32
        by_cases hm4 : m < 4
        · have hd4 : decide ((m : Int) < 4) = true := by simp; omega
          have hl : Hid (stps (m + 1) k = stp (stps m k)) := stps_last m k
          obtain ⟨Y, hY0⟩ : ∃ Y, Y = stps m k := ⟨_, rfl⟩
          rw [← hY0] at hY hl
          rw [← hY0]
          clear hY0
          go_wp2_with (go_at_call 153; refine (step_any Y hY _).mono ?_; rintro e w' ⟨rfl, rfl⟩)
          go_round
          case rel => exact ⟨m + 1, by omega, by go_num, by rw [hl.out]⟩
          case measure => simp [intOf]; omega
        · have hm8 : m = 4 := by omega
          subst hm8
          have hT2 := hT.set k (stps 4 k)
          rw [halfs_set k hlt] at hT2
          have hg2 := grown_set hg k (.int .u32 ((stps 4 k : Nat) : Int))
          clear hT hg
          go_wp2
          go_roundw
          case rel => exact ⟨k + 1, by omega, by go_num, hT2, hg2⟩
          case measure => simp [intOf]; omega
    · have hk16 : k = 16 := by omega
      subst hk16
      go_wp2
      go_end0
      exact ⟨rfl, hT, hg⟩

theorem Tab.drewN {t : TypeId} {w : World} {g : Nat} {zs : List Nat} (h : Tab t w g zs) (m : Nat) : Tab t (w.drewN m) g zs := by
  induction m with
  | zero => exact h
  | succ m ih => exact ih

set_option maxRecDepth 100000 in
set_option maxHeartbeats 800000 in
theorem takeS_any (g : Nat) (t : TypeId) (v b : Nat) (hv : W32 v) (hb : b < 256) (w : World) (hT : Tab t w g (halfs 16)) :
    Calls Tryz.prog 143 #[.pointer (some ⟨g, 0, none⟩), .int .u32 (v : Int), .int .u8 (b : Int)] w fun e w' => e = .returned (.int .u32 ((tak v b : Nat) : Int)) ∧ w' = w := by
  have e1 : bits .xor .u32 (v : Int) (b : Int) = ((v ^^^ b : Nat) : Int) := u32_xor_nat _ _ hv (by omega)
  have h32 : W32 (v ^^^ b) := xor32 hv (by unfold W32; omega)
  obtain ⟨X, hX⟩ : ∃ X, X = v ^^^ b := ⟨_, rfl⟩
  have ht : Hid (tak v b = stps (4 * 2) X) := by rw [hX]; rfl
  rw [← hX] at e1 h32
  clear hX
  go_enter Tryz.func143, Tryz.ntmps143
  go_wp2
  go_loop [1, 11] (fun r i => ∃ k : Nat, k ≤ 2 ∧ i = .int .i64 (k : Int) ∧ r = .int .u32 ((stps (4 * k) X : Nat) : Int)) (fun _ i => 2 - (intOf i).toNat)
  case atStart => exact ⟨0, by omega, rfl, rfl⟩
  case round =>
    obtain ⟨k, hk, rfl, rfl⟩ := hrel
    have hY : W32 (stps (4 * k) X) := stps32 h32
    by_cases hlt : k < 2
    · have hd : decide ((k : Int) < 2) = true := by simp; omega
      have hl : Hid (stps (4 * (k + 1)) X = stps 4 (stps (4 * k) X)) := by rw [Nat.mul_add]; exact stps_add _ _ _
      obtain ⟨Y, hY0⟩ : ∃ Y, Y = stps (4 * k) X := ⟨_, rfl⟩
      rw [← hY0] at hY hl
      rw [← hY0]
      clear hY0
      obtain ⟨m, hm⟩ : ∃ m, m = Y % 16 := ⟨_, rfl⟩
      have hm16 : m < 16 := by omega
      have hmi : (Y : Int) % 16 = (m : Int) := by omega
      have hmi2 : (Y : Int).tmod 16 = (m : Int) := by rw [Int.tmod_eq_emod_of_nonneg (by omega)]; exact hmi
      have hc := hT.cell (i := m) (by rw [halfs_len]; exact hm16)
      rw [halfs_at _ _ hm16, if_pos hm16] at hc
      have hY' : Y < 4294967296 := hY
      have e2 : bits .xor .u32 ((Y : Int) / 16) ((stps 4 m : Nat) : Int) = ((Y / 16 ^^^ stps 4 m : Nat) : Int) := by
        rw [show (Y : Int) / 16 = ((Y / 16 : Nat) : Int) by omega]
        exact u32_xor_nat _ _ (by omega) (stps32 (by unfold W32; omega))
      have hS : Hid (stps 4 Y = Y / 16 ^^^ stps 4 m) := by rw [hm]; exact stps_half Y
      have hmb : (m : Int) < 16 := by omega
      clear hm hT
      go_wp2
      go_round
      case rel => exact ⟨k + 1, by omega, by go_num, by rw [hl.out, hS.out]⟩
      case measure => simp [intOf]; omega
    · have hk2 : k = 2 := by omega
      subst hk2
      go_wp2
      go_ret
      rw [ht.out]; exact ⟨rfl, rfl⟩

theorem i_not (x : Nat) (hx : W32 x) : bits .xor .u32 IntKind.u32.max (x : Int) = ((x ^^^ 4294967295 : Nat) : Int) := by
  have h := u32_xor_nat 4294967295 x (by omega) hx
  rw [Nat.xor_comm] at h
  exact h

theorem RowB.under {w w' : World} {B : Nat} {a : Option Addr} {zs : List Nat} (h : RowB w a zs) (hs : w.heap.size ≤ B) (hb : Below B w w') : RowB w' a zs := h.below (hb.mono hs)

set_option maxRecDepth 100000 in
set_option maxHeartbeats 800000 in
theorem more_any (s : Nat) (hs : W32 s) (a : Option Addr) (cap : Nat) (zs : List Nat) (w : World) (hr : RowB w a zs) (h8 : All8 zs) (hm : zs.length ≤ maxLen) :
    Calls Tryz.prog 124 #[.int .u32 (s : Int), .slice a zs.length cap] w fun e w' => e = .returned (.int .u32 ((moreN s zs : Nat) : Int)) ∧ Below w.heap.size w w' := by
  unfold maxLen at hm
  have e1 := i_not s hs
  have h32 : W32 (s ^^^ 4294967295) := xor32 hs (by unfold W32; omega)
  obtain ⟨X, hX⟩ : ∃ X, X = s ^^^ 4294967295 := ⟨_, rfl⟩
  have ht : Hid (moreN s zs = run X zs ^^^ 4294967295) := by rw [hX]; rfl
  rw [← hX] at e1 h32
  clear hX
  have hT0 : ∀ t, Tab t (w.alloc (.cells (halfs 0 |>.map encW).toArray t)) w.heap.size (halfs 0) := fun t => heap_alloc_new w _
  have hb0 : ∀ o, Below w.heap.size w (w.alloc o) := fun o => (Below.refl _ _).alloc (Nat.le_refl _) _
  go_enter Tryz.func124, Tryz.ntmps124
  go_wp2_with (go_at_call 142; refine (fillS_any w.heap.size _ _ (hT0 _)).mono ?_; rintro e w1 ⟨rfl, hT1, hg1⟩)
  have hb1 : Below w.heap.size w w1 := (hb0 _).grown hg1 (by simp) (fun j e => by cases e; exact Nat.le_refl _)
  have hr1 := hr.below hb1
  clear hg1 hr hT0 hb0
  go_loop [6, 14] (fun r i => ∃ k : Nat, k ≤ zs.length ∧ i = .int .i64 (k : Int) ∧ r = .int .u32 ((run X (zs.take k) : Nat) : Int)) (fun _ i => zs.length - (intOf i).toNat)
  case atStart => exact ⟨0, by omega, rfl, rfl⟩
  case round =>
    obtain ⟨k, hk, rfl, rfl⟩ := hrel
    have hY : W32 (run X (zs.take k)) := run32 h32 (fun b hb => h8 b (List.mem_of_mem_take hb))
    by_cases hlt : k < zs.length
    · have hi1 : (k : Int) < (zs.length : Int) := by omega
      have hl : Hid (run X (zs.take (k + 1)) = tak (run X (zs.take k)) (at0 zs k)) := by rw [takeS_at hlt]; exact run_snoc _ _ _
      have hz8 : at0 zs k < 256 := h8 _ (at0_mem hlt)
      obtain ⟨Y, hY0⟩ : ∃ Y, Y = run X (zs.take k) := ⟨_, rfl⟩
      obtain ⟨b, o, rfl, _, hc⟩ := hr1.here hlt
      have hck := hc k hlt
      rw [← hY0] at hY hl
      rw [← hY0]
      clear hY0 hc hr1
      go_wp2_with (go_at_call 143; refine (takeS_any w.heap.size _ Y _ hY hz8 _ hT1).mono ?_; rintro e w' ⟨rfl, rfl⟩)
      go_round
      case rel => exact ⟨k + 1, by omega, by go_num, by rw [hl.out]⟩
      case measure => simp [intOf]; omega
    · have hk8 : k = zs.length := by omega
      subst hk8
      rw [List.take_length] at hY ⊢
      have e3 := i_not _ hY
      go_wp2
      go_ret
      rw [ht.out]; exact ⟨rfl, hb1⟩

set_option maxRecDepth 100000 in
set_option maxHeartbeats 400000 in
theorem of_any (a : Option Addr) (cap : Nat) (zs : List Nat) (w : World) (hr : RowB w a zs) (h8 : All8 zs) (hm : zs.length ≤ maxLen) :
    Calls Tryz.prog 106 #[.slice a zs.length cap] w fun e w' => e = .returned (.int .u32 ((moreN 0 zs : Nat) : Int)) ∧ Below w.heap.size w w' := by
  have hc := more_any 0 (by unfold W32; omega) a cap zs w hr h8 hm
  go_enter Tryz.func106, Tryz.ntmps106
  go_wp2_with (go_at_call 124; refine hc.mono ?_; rintro e w' ⟨rfl, hb⟩)
  go_ret
  exact ⟨rfl, hb⟩

end Go.Proofs.YtkacfpmninmjkaaGreat
