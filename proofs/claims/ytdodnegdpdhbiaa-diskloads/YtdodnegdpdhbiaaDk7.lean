/- The disk's operations, whole. -/
import Derived.Test.YtdodnegdpdhbiaaDk6
namespace Go.Proofs.Ytdodnegdpdhbiaa
open Go.RowKit

section
variable {w : World} {F : Nat → Prop} {p : Nat} {am : Bool} {n : Nat} {s : Nat → Pt}

theorem opAppend (h : Dsk w F p am n s) (i : Nat) (hi : i < n) (A : Int) (a : Option Addr) (cap : Nat) (zs : List Nat) (hr : RowB w a zs) (h8 : All8 zs) (hnil : a = none → zs.length = 0 ∧ cap = 0) (hl : (s i).bs.length + zs.length ≤ 211106232532800) (hB : (s i).B + (s i).bs.length + zs.length ≤ 9223372036854775807) (hcb : (s i).c ≤ 4611686018427387904) :
    Calls Try.prog 28 #[.pointer (some ⟨p, 0, none⟩), .int .i64 (i : Int), .slice a zs.length cap] w fun e w' => Opd w F p am n (upd s i (opS am (s i) 0 A zs).2) (opS am (s i) 0 A zs).1 e w' := by
  have hD := h
  obtain ⟨g, C, q, v, h⟩ := h
  have hb0 : Below w.heap.size w (w.alloc (.cells #[.slice a zs.length cap] 23)) := (Below.refl _ _).alloc (Nat.le_refl _) _
  have h0 := h.below hb0
  have hbx : (w.alloc (.cells #[.slice a zs.length cap] 23)).cell? ⟨w.heap.size, 0, none⟩ = some (.slice a zs.length cap) := cell_of_row _ _ _ _ _ _ (heap_alloc_new w _)
  have hbl : w.heap.size < (w.alloc (.cells #[.slice a zs.length cap] 23)).heap.size := by simp
  have hbn : ¬ Ft (q i) (v i) w.heap.size := fun hx => by have := (h.ar i hi).inside _ hx; omega
  refine append_box hD.lt i (.slice a zs.length cap) a zs.length cap rfl ?_
  obtain ⟨W, hW⟩ : ∃ W, W = w.alloc (.cells #[.slice a zs.length cap] 23) := ⟨_, rfl⟩
  rw [← hW] at h0 hbx hbl hb0 ⊢
  clear hW
  unfold opS
  by_cases hdn : down am (s i) = true
  · rw [if_pos hdn, upd_self]
    exact (operate_down h0 i hi _ hdn).mono fun e w' hq => Opd.of_below ⟨_, _, _, _, h0⟩ hq.1 hq.2
  · rw [if_neg hdn]
    have hdf : down am (s i) = false := by simpa using hdn
    unfold opX
    exact operate_append h0 i hi _ hdf hcb (s i).B ((s i).bs ++ zs) (s i).k (by have := h.le i hi; rw [List.length_append]; omega) (fun w1 hb => by
      obtain ⟨k1, k2, k3, k4⟩ := h0.later hb hi
      have hr1 := hr.below (hb0.trans (hb.mono hb0.size))
      exact close_append _ 0 w1 k1 ((hb.cell (p := ⟨w.heap.size, 0, none⟩) hbl).trans hbx) k2 (Nat.lt_of_lt_of_le hbl hb.size) k3 k4 hbn a zs.length cap rfl (append_any _ k3.drew a cap zs (hr1.below (Below.refl _ _).drew) h8 hnil hl hB))

theorem opCut (h : Dsk w F p am n s) (i : Nat) (hi : i < n) (A : Int) (zs : List Nat) (hcb : (s i).c ≤ 4611686018427387904) :
    Calls Try.prog 61 #[.pointer (some ⟨p, 0, none⟩), .int .i64 (i : Int), .int .i64 A] w fun e w' => Opd w F p am n (upd s i (opS am (s i) 2 A zs).2) (opS am (s i) 2 A zs).1 e w' := by
  have hD := h
  obtain ⟨g, C, q, v, h⟩ := h
  have hb0 : Below w.heap.size w (w.alloc (.cells #[.int .i64 A] 3)) := (Below.refl _ _).alloc (Nat.le_refl _) _
  have h0 := h.below hb0
  have hbx : (w.alloc (.cells #[.int .i64 A] 3)).cell? ⟨w.heap.size, 0, none⟩ = some (.int .i64 A) := cell_of_row _ _ _ _ _ _ (heap_alloc_new w _)
  have hbl : w.heap.size < (w.alloc (.cells #[.int .i64 A] 3)).heap.size := by simp
  have hbn : ¬ Ft (q i) (v i) w.heap.size := fun hx => by have := (h.ar i hi).inside _ hx; omega
  refine cut_box hD.lt i (.int .i64 A) A rfl ?_
  obtain ⟨W, hW⟩ : ∃ W, W = w.alloc (.cells #[.int .i64 A] 3) := ⟨_, rfl⟩
  rw [← hW] at h0 hbx hbl hb0 ⊢
  clear hW
  unfold opS
  by_cases hdn : down am (s i) = true
  · rw [if_pos hdn, upd_self]
    exact (operate_down h0 i hi _ hdn).mono fun e w' hq => Opd.of_below ⟨_, _, _, _, h0⟩ hq.1 hq.2
  · rw [if_neg hdn]
    have hdf : down am (s i) = false := by simpa using hdn
    unfold opX
    simp only [reduceIte, Nat.reduceEqDiff]
    by_cases hA : A < ((s i).B : Int) ∨ ((s i).B : Int) + ((s i).bs.length : Int) < A
    · rw [if_pos hA]
      show Calls _ _ _ _ fun e w' => Opd W F p am n (upd s i (s i)) 70 e w'
      rw [upd_self]
      exact operate_cut_no h0 i hi _ hdf (fun w1 hb => by
        obtain ⟨k1, k2, k3, k4⟩ := h0.later hb hi
        exact close_cut _ 70 w1 k1 ((hb.cell (p := ⟨w.heap.size, 0, none⟩) hbl).trans hbx) k2 (Nat.lt_of_lt_of_le hbl hb.size) k3 k4 hbn A rfl (cut_no _ k3.drew A hA))
    · rw [if_neg hA]
      obtain ⟨m, hm⟩ : ∃ m, m = (A - ((s i).B : Int)).toNat := ⟨_, rfl⟩
      rw [← hm]
      have hle := h.le i hi
      exact operate_cut h0 i hi _ hdf hcb ((s i).B) ((s i).bs.take m) (min (s i).k m) (by simp; omega) (fun w1 hb => by
        obtain ⟨k1, k2, k3, k4⟩ := h0.later hb hi
        exact close_cut _ 0 w1 k1 ((hb.cell (p := ⟨w.heap.size, 0, none⟩) hbl).trans hbx) k2 (Nat.lt_of_lt_of_le hbl hb.size) k3 k4 hbn A rfl (cut_ok _ k3.drew m (by omega) A (by omega)))

theorem opTrim (h : Dsk w F p am n s) (i : Nat) (hi : i < n) (A : Int) (zs : List Nat) (hcb : (s i).c ≤ 4611686018427387904) :
    Calls Try.prog 62 #[.pointer (some ⟨p, 0, none⟩), .int .i64 (i : Int), .int .i64 A] w fun e w' => Opd w F p am n (upd s i (opS am (s i) 3 A zs).2) (opS am (s i) 3 A zs).1 e w' := by
  have hD := h
  obtain ⟨g, C, q, v, h⟩ := h
  have hb0 : Below w.heap.size w (w.alloc (.cells #[.int .i64 A] 3)) := (Below.refl _ _).alloc (Nat.le_refl _) _
  have h0 := h.below hb0
  have hbx : (w.alloc (.cells #[.int .i64 A] 3)).cell? ⟨w.heap.size, 0, none⟩ = some (.int .i64 A) := cell_of_row _ _ _ _ _ _ (heap_alloc_new w _)
  have hbl : w.heap.size < (w.alloc (.cells #[.int .i64 A] 3)).heap.size := by simp
  have hbn : ¬ Ft (q i) (v i) w.heap.size := fun hx => by have := (h.ar i hi).inside _ hx; omega
  refine trim_box hD.lt i (.int .i64 A) A rfl ?_
  obtain ⟨W, hW⟩ : ∃ W, W = w.alloc (.cells #[.int .i64 A] 3) := ⟨_, rfl⟩
  rw [← hW] at h0 hbx hbl hb0 ⊢
  clear hW
  unfold opS
  by_cases hdn : down am (s i) = true
  · rw [if_pos hdn, upd_self]
    exact (operate_down h0 i hi _ hdn).mono fun e w' hq => Opd.of_below ⟨_, _, _, _, h0⟩ hq.1 hq.2
  · rw [if_neg hdn]
    have hdf : down am (s i) = false := by simpa using hdn
    unfold opX
    simp only [reduceIte, Nat.reduceEqDiff]
    by_cases hA : A < ((s i).B : Int) ∨ ((s i).B : Int) + ((s i).k : Int) < A
    · rw [if_pos hA]
      show Calls _ _ _ _ fun e w' => Opd W F p am n (upd s i (s i)) 70 e w'
      rw [upd_self]
      exact operate_trim_no h0 i hi _ hdf (fun w1 hb => by
        obtain ⟨k1, k2, k3, k4⟩ := h0.later hb hi
        exact close_trim _ 70 w1 k1 ((hb.cell (p := ⟨w.heap.size, 0, none⟩) hbl).trans hbx) k2 (Nat.lt_of_lt_of_le hbl hb.size) k3 k4 hbn A rfl (trim_no _ k3.drew (h.le i hi) A hA))
    · rw [if_neg hA]
      obtain ⟨m, hm⟩ : ∃ m, m = (A - ((s i).B : Int)).toNat := ⟨_, rfl⟩
      rw [← hm]
      have hle := h.le i hi
      exact operate_trim h0 i hi _ hdf hcb ((s i).B + m) ((s i).bs.drop m) ((s i).k - m) (by simp; omega) (fun w1 hb => by
        obtain ⟨k1, k2, k3, k4⟩ := h0.later hb hi
        exact close_trim _ 0 w1 k1 ((hb.cell (p := ⟨w.heap.size, 0, none⟩) hbl).trans hbx) k2 (Nat.lt_of_lt_of_le hbl hb.size) k3 k4 hbn A rfl (trim_ok _ k3.drew hle m (by omega) A (by omega)))

set_option maxRecDepth 100000 in
set_option maxHeartbeats 800000 in
theorem opSync (h : Dsk w F p am n s) (i : Nat) (hi : i < n) (A : Int) (zs : List Nat) (hcb : (s i).c ≤ 4611686018427387904) :
    Calls Try.prog 29 #[.pointer (some ⟨p, 0, none⟩), .int .i64 (i : Int)] w fun e w' => Opd w F p am n (upd s i (opS am (s i) 1 A zs).2) (opS am (s i) 1 A zs).1 e w' := by
  have ho : Calls Try.prog 63 #[.pointer (some ⟨p, 0, none⟩), .int .i64 (i : Int), .func (.func 65) #[] #[]] w fun e w' => Opd w F p am n (upd s i (opS am (s i) 1 A zs).2) (opS am (s i) 1 A zs).1 e w' := by
    obtain ⟨g, C, q, v, h⟩ := h
    unfold opS
    by_cases hdn : down am (s i) = true
    · rw [if_pos hdn, upd_self]
      exact (operate_down h i hi _ hdn).mono fun e w' hq => Opd.of_below ⟨_, _, _, _, h⟩ hq.1 hq.2
    · rw [if_neg hdn]
      have hdf : down am (s i) = false := by simpa using hdn
      exact operate_sync h i hi hdf hcb (s i).B (s i).bs (s i).bs.length (Nat.le_refl _) (fun w1 hb => by
        obtain ⟨k1, k2, k3, k4⟩ := h.later hb hi
        exact close_sync w1 k1 k3)
  obtain ⟨S', hS'⟩ : ∃ S', S' = upd s i (opS am (s i) 1 A zs).2 := ⟨_, rfl⟩
  obtain ⟨E', hE'⟩ : ∃ E', E' = (opS am (s i) 1 A zs).1 := ⟨_, rfl⟩
  rw [← hS', ← hE'] at ho ⊢
  clear hS' hE' h
  go_enter Try.func29, Try.ntmps29
  go_wp2_with fail
  refine ho.mono ?_
  rintro e w2 ⟨rfl, hw⟩
  go_wp2_with fail
  go_ret
  exact ⟨rfl, hw⟩
end

/-! ### of an area that is not there -/
set_option maxRecDepth 100000 in
set_option maxHeartbeats 800000 in
theorem append_none (pv : Value) (E0 : Int) (hE0 : E0 ≠ 0) (I : Int) (a : Option Addr) (l c : Nat) (w : World) (hp : ∀ w1, Below w.heap.size w w1 → Calls Try.prog 67 #[pv, .int .i64 I] w1 fun e w' => e = .returned (.tuple #[.pointer none, .int .i64 E0]) ∧ w' = w1) :
    Calls Try.prog 28 #[pv, .int .i64 I, .slice a l c] w fun e w' => e = .returned (.int .i64 E0) ∧ Below w.heap.size w w' := by
  have hb0 : Below w.heap.size w (w.alloc (.cells #[.slice a l c] 23)) := (Below.refl _ _).alloc (Nat.le_refl _) _
  have ho := fun fv => operate_none pv fv E0 hE0 I _ (hp _ hb0)
  clear hp
  have hmf : ∀ (fn : Fn) (first cap : Array Value) (w : World), (Instr.makeFunc fn first cap).run Try.prog w = .ok (.func fn first cap) w := fun _ _ _ _ => rfl
  go_enter Try.func28, Try.ntmps28
  go_wp2_with fail
  refine (ho _).mono ?_
  rintro e w2 ⟨rfl, hw⟩
  rw [hw]
  clear hw
  go_wp2_with fail
  go_ret
  exact ⟨rfl, hb0⟩

set_option maxRecDepth 100000 in
set_option maxHeartbeats 800000 in
theorem cut_none (pv : Value) (E0 : Int) (hE0 : E0 ≠ 0) (I : Int) (A : Int) (w : World) (hp : ∀ w1, Below w.heap.size w w1 → Calls Try.prog 67 #[pv, .int .i64 I] w1 fun e w' => e = .returned (.tuple #[.pointer none, .int .i64 E0]) ∧ w' = w1) :
    Calls Try.prog 61 #[pv, .int .i64 I, .int .i64 A] w fun e w' => e = .returned (.int .i64 E0) ∧ Below w.heap.size w w' := by
  have hb0 : Below w.heap.size w (w.alloc (.cells #[.int .i64 A] 3)) := (Below.refl _ _).alloc (Nat.le_refl _) _
  have ho := fun fv => operate_none pv fv E0 hE0 I _ (hp _ hb0)
  clear hp
  have hmf : ∀ (fn : Fn) (first cap : Array Value) (w : World), (Instr.makeFunc fn first cap).run Try.prog w = .ok (.func fn first cap) w := fun _ _ _ _ => rfl
  go_enter Try.func61, Try.ntmps61
  go_wp2_with fail
  refine (ho _).mono ?_
  rintro e w2 ⟨rfl, hw⟩
  rw [hw]
  clear hw
  go_wp2_with fail
  go_ret
  exact ⟨rfl, hb0⟩

set_option maxRecDepth 100000 in
set_option maxHeartbeats 800000 in
theorem trim_none (pv : Value) (E0 : Int) (hE0 : E0 ≠ 0) (I : Int) (A : Int) (w : World) (hp : ∀ w1, Below w.heap.size w w1 → Calls Try.prog 67 #[pv, .int .i64 I] w1 fun e w' => e = .returned (.tuple #[.pointer none, .int .i64 E0]) ∧ w' = w1) :
    Calls Try.prog 62 #[pv, .int .i64 I, .int .i64 A] w fun e w' => e = .returned (.int .i64 E0) ∧ Below w.heap.size w w' := by
  have hb0 : Below w.heap.size w (w.alloc (.cells #[.int .i64 A] 3)) := (Below.refl _ _).alloc (Nat.le_refl _) _
  have ho := fun fv => operate_none pv fv E0 hE0 I _ (hp _ hb0)
  clear hp
  have hmf : ∀ (fn : Fn) (first cap : Array Value) (w : World), (Instr.makeFunc fn first cap).run Try.prog w = .ok (.func fn first cap) w := fun _ _ _ _ => rfl
  go_enter Try.func62, Try.ntmps62
  go_wp2_with fail
  refine (ho _).mono ?_
  rintro e w2 ⟨rfl, hw⟩
  rw [hw]
  clear hw
  go_wp2_with fail
  go_ret
  exact ⟨rfl, hb0⟩

set_option maxRecDepth 100000 in
set_option maxHeartbeats 800000 in
theorem sync_none (pv : Value) (E0 : Int) (hE0 : E0 ≠ 0) (I : Int) (w : World) (hp : ∀ w1, Below w.heap.size w w1 → Calls Try.prog 67 #[pv, .int .i64 I] w1 fun e w' => e = .returned (.tuple #[.pointer none, .int .i64 E0]) ∧ w' = w1) :
    Calls Try.prog 29 #[pv, .int .i64 I] w fun e w' => e = .returned (.int .i64 E0) ∧ Below w.heap.size w w' := by
  have ho := fun fv => operate_none pv fv E0 hE0 I _ (hp _ (Below.refl _ _))
  clear hp
  go_enter Try.func29, Try.ntmps29
  go_wp2_with fail
  refine (ho _).mono ?_
  rintro e w2 ⟨rfl, hw⟩
  rw [hw]
  clear hw
  go_wp2_with fail
  go_ret
  exact ⟨rfl, Below.refl _ _⟩

end Go.Proofs.Ytdodnegdpdhbiaa
