/- Load, walked. -/
import Derived.Test.YthaknohnccmfoaaSo32
namespace Go.Proofs.Ythaknohnccmfoaa
open Go.RowKit Go.Maps

/-- What a store is that takes versions as long as they are taken, and the first error. -/
def loadA (A : Cont) : List Vn → Cont × Int
  | [] => (A, 0)
  | y :: r => if applyE A y = 0 then loadA (applyA A y) r else (A, applyE A y)
theorem Fil.appV {w z : World} {s : Nat} {A : Cont} (h : Fil w z s A) (hf : Fine A) (y : Vn) (hy : VnOk w y) : Calls Try.prog 31 #[.pointer (some ⟨s, 0, none⟩), verV y] z fun e z' => e = .returned (.int .i64 (applyE A y)) ∧ Fil w z' s (applyA A y) := by
  obtain ⟨F, mb, M, hs, rfl, hl⟩ := h.st
  refine (apply_any hs y (hy.below h.bel) (fun b o h0 e hb => by
    have h1 := hl b hb
    rcases hy.row with h2 | ⟨b2, o2, e2, h3, _⟩
    · omega
    · rw [e] at e2; cases e2; omega) hf.tot (by have := hf.keys; simpa [abs] using this)).mono ?_
  rintro e z' ⟨rfl, h2⟩
  obtain ⟨mb', M', q1, q2⟩ := h2.st
  refine ⟨rfl, ⟨_, mb', M', q1, q2, fun j hj => ?_⟩, h.bel.trans (h2.chg.below hl h.bel.size)⟩
  rcases hj with hj | hj
  · exact hl j hj
  · exact Nat.le_trans h.bel.size hj.1
/-- A row of versions that can be read. -/
def RowN (w : World) (a : Option Addr) (ys : List Vn) : Prop := ys.length = 0 ∨ ∃ b o, a = some ⟨b, o, none⟩ ∧ b < w.heap.size ∧ ∀ i, i < ys.length → w.cell? ⟨b, o + i * 4, none⟩ = some (.string (vn ys i).k) ∧ w.cell? ⟨b, o + i * 4 + 1, none⟩ = some (.int .i64 (vn ys i).n) ∧ w.cell? ⟨b, o + i * 4 + 2, none⟩ = some (.slice (vn ys i).a (vn ys i).z.length (vn ys i).c) ∧ w.cell? ⟨b, o + i * 4 + 3, none⟩ = some (.bool (vn ys i).d)

set_option maxRecDepth 100000 in
set_option maxHeartbeats 4000000 in
theorem load_any (a : Option Addr) (c : Nat) (ys : List Vn) (w : World) (hr : RowN w a ys) (hl : ys.length ≤ 4000000000000) (hok : ∀ i, i < ys.length → VnOk w (vn ys i)) :
    Calls Try.prog 20 #[.slice a ys.length c] w fun e w' => (((loadA [] ys).2 = 0 ∧ e = .returned (.tuple #[.pointer (some ⟨w.heap.size, 0, none⟩), .int .i64 0]) ∧ Fil w w' w.heap.size (loadA [] ys).1 ∧ FineK (loadA [] ys).1 ys.length) ∨ ((loadA [] ys).2 ≠ 0 ∧ e = .returned (.tuple #[.pointer none, .int .i64 (loadA [] ys).2]))) ∧ Below w.heap.size w w' := by
  have hnew := new_any w
  obtain ⟨V1, hV1⟩ : ∃ W, W = w.alloc (.cells #[.map none] 75) := ⟨_, rfl⟩
  have hF0 : Fil w V1 w.heap.size [] := by
    rw [hV1]
    exact ⟨⟨_, none, [], sto_new w, rfl, fun j hj => Nat.le_of_eq hj.symm⟩, (Below.refl _ _).alloc (Nat.le_refl _) _⟩
  rw [← hV1] at hnew
  obtain ⟨N, hN⟩ : ∃ N, N = ys.length := ⟨_, rfl⟩
  have HF0 := hide_it hF0
  have HR := hide_it hr
  have HOK := hide_it hok
  have HN := hide_it hN
  rw [← hN] at hl ⊢
  clear hF0 hV1 hr hok hN
  go_enter Try.func20, Try.ntmps20
  go_wp2_with fail
  refine hnew.mono ?_
  rintro e w1 ⟨rfl, hw1⟩
  obtain rfl := hw1.symm
  clear hnew hw1
  go_wp2_with fail
  go_loopw [11, 6, 7] (fun i _ _ wr => ∃ (k : Nat) (A : Cont), k ≤ N ∧ i = .int .i64 (k : Int) ∧ Hid (Fil w wr w.heap.size A) ∧ Hid (FineK A k) ∧ Hid (loadA [] ys = loadA A (ys.drop k))) (fun i _ _ _ => N - (intOf i).toNat)
  case atStart => exact ⟨0, [], by omega, rfl, HF0, hide_it FineK.nil, hide_it rfl⟩
  case round =>
    clear HF0
    obtain ⟨k, A, hk, rfl, HD, HF, HL⟩ := hrel
    by_cases hlt : k < N
    · have hki : (k : Int) < (N : Int) := by omega
      have hw1 : IntKind.i64.wrap ((k : Int) + 1) = (k : Int) + 1 := i64_in (by omega) (by omega)
      have hky : k < ys.length := by rw [← HN.out]; exact hlt
      obtain ⟨b2, o2, rfl, l2, hc⟩ : ∃ b o, a = some ⟨b, o, none⟩ ∧ b < w.heap.size ∧ ∀ i, i < ys.length → _ := by
        rcases HR.out with h0 | h0
        · omega
        · exact h0
      obtain ⟨c0, c1, c2, c3⟩ := hc k hky
      have d0 := (HD.out.bel.cell (p := ⟨b2, o2 + k * 4, none⟩) l2).trans c0
      have d1 := (HD.out.bel.cell (p := ⟨b2, o2 + k * 4 + 1, none⟩) l2).trans c1
      have d2 := (HD.out.bel.cell (p := ⟨b2, o2 + k * 4 + 2, none⟩) l2).trans c2
      have d3 := (HD.out.bel.cell (p := ⟨b2, o2 + k * 4 + 3, none⟩) l2).trans c3
      have hx := HOK.out k hky
      have hdr : ys.drop k = vn ys k :: ys.drop (k + 1) := by rw [List.drop_eq_getElem_cons hky, vn_get hky]
      have hld : loadA [] ys = if applyE A (vn ys k) = 0 then loadA (applyA A (vn ys k)) (ys.drop (k + 1)) else (A, applyE A (vn ys k)) := by rw [HL.out, hdr]; rfl
      generalize vn ys k = y at *
      have HN2 := hide_it (applyA_fine HF.out HD.out.nodup y)
      have hfin := HF.out.fine (show k ≤ 4000000000000 by omega)
      obtain ⟨W, hW⟩ : ∃ W, W = wr.alloc (.cells #[.string y.k, .int .i64 y.n, .slice y.a y.z.length y.c, .bool y.d] 30) := ⟨_, rfl⟩
      have hbW : Below wr.heap.size wr W := by rw [hW]; exact (Below.refl _ _).alloc (Nat.le_refl _) _
      have hap := (HD.out.below hbW).appV hfin y hx
      unfold verV at hap
      by_cases h0 : applyE A y = 0
      · rw [if_pos h0] at hld
        rw [h0] at hap
        have HLD := hide_it hld
        clear c0 c1 c2 c3 hc hx hbW HD HF HL hfin hdr hld h0
        go_wp2_with fail
        rw [← hW]
        clear hW d0 d1 d2 d3
        refine hap.mono ?_
        rintro e z1 ⟨rfl, hD⟩
        have HY := hide_it hD
        clear hap hD
        go_wp2
        go_roundw
        case rel => exact ⟨k + 1, _, by omega, by go_num, HY, HN2, HLD⟩
        case measure => simp [intOf]; omega
      · rw [if_neg h0] at hld
        have HLD := hide_it hld
        have hq : (applyE A y == 0) = false := by simpa using h0
        have H0 := hide_it h0
        generalize applyE A y = E at *
        clear c0 c1 c2 c3 hc hx hbW HD HF HL hfin hdr hld h0
        go_wp2_with fail
        rw [← hW]
        clear hW d0 d1 d2 d3
        refine hap.mono ?_
        rintro e z1 ⟨rfl, hD⟩
        have HY := hide_it hD.bel
        clear hap hD
        go_wp2
        refine bodyPost_ret (v := .tuple #[.pointer none, .int .i64 E]) (by simp [results, Try.results20, go_sem]) rfl ⟨.inr ?_, HY.out⟩
        rw [HLD.out]; exact ⟨H0.out, rfl⟩
    · have hn1 : ¬ (k : Int) < (N : Int) := by omega
      have hkn : k = ys.length := by have := HN.out; omega
      have hld : loadA [] ys = (A, 0) := by rw [HL.out, hkn, List.drop_length]; rfl
      have HLD := hide_it hld
      have hF2 := HF.out.mono hk
      have HF2 := hide_it hF2
      clear hkn hld hF2 HL HF
      go_wp2
      refine bodyPost_ret (v := .tuple #[.pointer (some ⟨w.heap.size, 0, none⟩), .int .i64 0]) (by simp [results, Try.results20, go_sem]) rfl ⟨.inl ?_, HD.out.bel⟩
      rw [HLD.out]; exact ⟨rfl, rfl, HD.out, HF2.out⟩

end Go.Proofs.Ythaknohnccmfoaa
