/- A store filled; any call of a store, of two. -/
import Derived.Test.YthaknohnccmfoaaSo30
import Derived.Test.YthaknohnccmfoaaOpenVsn
namespace Go.Proofs.Ythaknohnccmfoaa
open Go.RowKit Go.Maps

theorem callS_any {w : World} {F : Nat → Prop} {s : Nat} {mb : Option Nat} {M : List Ky} (h : Sto w F s mb M) (hf : Fine (abs M)) (x : Stv) (hx : StvOk w x) (hfar : ∀ b o, 0 < x.val.p.length → x.val.a = some ⟨b, o, none⟩ → ¬ F b) :
    Calls Try.prog 13 #[.pointer (some ⟨s, 0, none⟩), stepV x] w fun e w' => (∃ v, e = .returned v ∧ TdNew w' w.heap.size v (tdA (abs M) x)) ∧ CallTo w F s (nextA (abs M) x) w' :=
  call_any h hf x hx hfar fun _ => scanned_any (h.below (wc_below w x)) hf x.key x.to x.stamp

/-- A version as it comes in. -/
def vnV (y : Vsn) : Vn := ⟨y.key, y.stamp, y.val.a, y.val.p, y.val.c, y.dead⟩
theorem vnV_ok {w : World} {y : Vsn} (h : VsnOk w y) : VnOk w (vnV y) :=
  ⟨by have := h.key; show y.key.size ≤ _; unfold maxLen; omega, h.stamp, h.val.row, h.val.none, by have := h.val.size; show y.val.p.length ≤ _; omega⟩
/-- What a store is that took the first k. -/
def filA (A : Nat → Vsn) : Nat → Cont
  | 0 => []
  | k + 1 => applyA (filA A k) (vnV (A k))
/-- A store made of new memory. -/
structure Fil (w wr : World) (s : Nat) (A : Cont) : Prop where
  st : ∃ F mb M, Sto wr F s mb M ∧ abs M = A ∧ ∀ j, F j → w.heap.size ≤ j
  bel : Below w.heap.size w wr
theorem Fil.below {w wr w' : World} {s : Nat} {A : Cont} (h : Fil w wr s A) (hb : Below wr.heap.size wr w') : Fil w w' s A := by
  obtain ⟨F, mb, M, h1, h2, h3⟩ := h.st
  exact ⟨⟨F, mb, M, h1.below hb, h2, h3⟩, h.bel.trans (hb.mono h.bel.size)⟩
theorem Fil.nodup {w wr : World} {s : Nat} {A : Cont} (h : Fil w wr s A) : (A.map (·.1)).Nodup := by
  obtain ⟨F, mb, M, h1, h2, _⟩ := h.st
  rw [← h2]; exact keys_nodup h1.rise
theorem Fil.app {w z : World} {s : Nat} {A : Cont} (h : Fil w z s A) (hf : Fine A) (y : Vsn) (hy : VsnOk w y) : Calls Try.prog 31 #[.pointer (some ⟨s, 0, none⟩), verV (vnV y)] z fun e z' => (∃ g : Int, e = .returned (.int .i64 g)) ∧ Fil w z' s (applyA A (vnV y)) := by
  obtain ⟨F, mb, M, hs, rfl, hl⟩ := h.st
  refine (apply_any hs (vnV y) (vnV_ok (hy.below h.bel)) (fun b o h0 e hb => by
    have h1 := hl b hb
    rcases hy.val.row with h2 | ⟨b2, o2, e2, h3, _⟩
    · have h0 : 0 < y.val.p.length := h0
      omega
    · have e : y.val.a = some ⟨b, o, none⟩ := e
      rw [e] at e2; cases e2; omega) hf.tot (by have := hf.keys; simpa [abs] using this)).mono ?_
  rintro e z' ⟨rfl, h2⟩
  obtain ⟨mb', M', q1, q2⟩ := h2.st
  refine ⟨⟨_, rfl⟩, ⟨_, mb', M', q1, q2, fun j hj => ?_⟩, h.bel.trans (h2.chg.below hl h.bel.size)⟩
  rcases hj with hj | hj
  · exact hl j hj
  · exact Nat.le_trans h.bel.size hj.1

set_option maxRecDepth 100000 in
set_option maxHeartbeats 2000000 in
theorem filled_any (a : Option Addr) (n c : Nat) (A : Nat → Vsn) (w : World) (ha : CameVsn w a n A) :
    Calls Try.prog 21 #[.slice a n c] w fun e w' => e = .returned (.pointer (some ⟨w.heap.size, 0, none⟩)) ∧ Fil w w' w.heap.size (filA A n) ∧ FineK (filA A n) n := by
  have hn := ha.size
  have hrow := ha.row
  have heach := hide_it ha.each
  clear ha
  have hnew := new_any w
  obtain ⟨V1, hV1⟩ : ∃ W, W = w.alloc (.cells #[.map none] 75) := ⟨_, rfl⟩
  have hF0 : Fil w V1 w.heap.size [] := by
    rw [hV1]
    exact ⟨⟨_, none, [], sto_new w, rfl, fun j hj => Nat.le_of_eq hj.symm⟩, (Below.refl _ _).alloc (Nat.le_refl _) _⟩
  rw [← hV1] at hnew
  have HF0 := hide_it hF0
  clear hF0 hV1
  go_enter Try.func21, Try.ntmps21
  go_wp2_with fail
  refine hnew.mono ?_
  rintro e w1 ⟨rfl, hw1⟩
  obtain rfl := hw1.symm
  clear hnew hw1
  go_wp2_with fail
  go_loopw [9, 5] (fun i _ wr => ∃ k : Nat, k ≤ n ∧ i = .int .i64 (k : Int) ∧ Hid (Fil w wr w.heap.size (filA A k)) ∧ Hid (FineK (filA A k) k)) (fun i _ _ => n - (intOf i).toNat)
  case atStart => exact ⟨0, by omega, rfl, HF0, hide_it FineK.nil⟩
  case round =>
    clear HF0
    obtain ⟨k, hk, rfl, HD, HF⟩ := hrel
    by_cases hlt : k < n
    · have hki : (k : Int) < (n : Int) := by omega
      have hw1 : IntKind.i64.wrap ((k : Int) + 1) = (k : Int) + 1 := i64_in (by omega) (by omega)
      obtain ⟨b2, o2, rfl, l2, c0, c1, c2, c3⟩ := hrow.here hlt
      have d0 := (HD.out.bel.cell (p := ⟨b2, o2 + k * 4, none⟩) l2).trans c0
      have d1 := (HD.out.bel.cell (p := ⟨b2, o2 + k * 4 + 1, none⟩) l2).trans c1
      have d2 := (HD.out.bel.cell (p := ⟨b2, o2 + k * 4 + 2, none⟩) l2).trans c2
      have d3 := (HD.out.bel.cell (p := ⟨b2, o2 + k * 4 + 3, none⟩) l2).trans c3
      have hx := heach.out k hlt
      have HN : Hid (FineK (filA A (k + 1)) (k + 1)) := hide_it (applyA_fine HF.out HD.out.nodup _)
      have hstep : filA A (k + 1) = applyA (filA A k) (vnV (A k)) := rfl
      have HST := hide_it hstep
      have hfin := HF.out.fine (show k ≤ 4000000000000 by omega)
      generalize A k = y at *
      obtain ⟨W, hW⟩ : ∃ W, W = wr.alloc (.cells #[.string y.key, .int .i64 y.stamp, .slice y.val.a y.val.p.length y.val.c, .bool y.dead] 30) := ⟨_, rfl⟩
      have hbW : Below wr.heap.size wr W := by rw [hW]; exact (Below.refl _ _).alloc (Nat.le_refl _) _
      have hap := (HD.out.below hbW).app hfin y hx
      unfold verV vnV at hap
      clear c0 c1 c2 c3 hrow hx hbW heach HD HF hstep hfin
      go_wp2_with fail
      rw [← hW]
      clear hW d0 d1 d2 d3
      refine hap.mono ?_
      rintro e z1 ⟨⟨g, rfl⟩, hD⟩
      have HY : Hid (Fil w z1 w.heap.size (filA A (k + 1))) := by rw [HST.out]; exact hide_it hD
      clear hap hD HST
      go_wp2
      go_roundw
      case rel => exact ⟨k + 1, by omega, by go_num, HY, HN⟩
      case measure => simp [intOf]; omega
    · have hn1 : ¬ (k : Int) < (n : Int) := by omega
      have hkn : k = n := by omega
      rw [hkn] at HD HF
      clear hkn
      go_wp2
      go_ret
      exact ⟨rfl, HD.out, HF.out⟩

end Go.Proofs.Ythaknohnccmfoaa
