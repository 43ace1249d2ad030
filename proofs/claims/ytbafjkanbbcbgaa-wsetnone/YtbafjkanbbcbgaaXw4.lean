/- A set's writes: Put, Delete. -/
import Derived.Test.YtbafjkanbbcbgaaXw3
namespace Go.Proofs.Ytbafjkanbbcbgaa
open Go.RowKit Go.Maps

/-- What a write leaves. -/
def Wrote (w : World) (F : Nat → Prop) (s : Nat) (C : Wc) (w' : World) : Prop := ∃ mb' M', Wst w' (upto F w w') s mb' M' ∧ saysV M' = C ∧ Chg F w w'
def writeA (C : Wc) (x : Vn) : Wc := if errA x.k x.z = 0 then layA C (ky x, verOf x) else C

theorem Wst.stays {w w' : World} {F : Nat → Prop} {s : Nat} {mb : Option Nat} {M : List Vn} (h : Wst w F s mb M) (hb : Below w.heap.size w w') : Wrote w F s (saysV M) w' :=
  ⟨mb, M, (h.below hb).mono (fun _ => .inl) (upto_in h.lt hb.size), rfl, Chg.new hb⟩

theorem mem_insW {x : List UInt8 × Ver} : ∀ {C : Wc} {y : List UInt8 × Ver}, y ∈ insW x C → y = x ∨ y ∈ C
  | [], y, hy => by unfold insW at hy; exact .inl (by simpa using hy)
  | a :: t, y, hy => by
    unfold insW at hy
    split at hy
    · rcases List.mem_cons.1 hy with h | h
      · exact .inl h
      · exact .inr h
    · rcases List.mem_cons.1 hy with h | h
      · exact .inr (by rw [h]; exact List.mem_cons_self ..)
      · rcases mem_insW h with h | h
        · exact .inl h
        · exact .inr (List.mem_cons_of_mem _ h)
theorem insW_len (x : List UInt8 × Ver) (C : Wc) : (insW x C).length = C.length + 1 := by
  induction C with
  | nil => rfl
  | cons f r ih => unfold insW; split <;> simp [ih]
theorem layA_len (C : Wc) (x : List UInt8 × Ver) : (layA C x).length ≤ C.length + 1 := by
  unfold layA; rw [insW_len]; exact Nat.succ_le_succ (List.length_filter_le _ _)
theorem mem_layA {C : Wc} {x y : List UInt8 × Ver} (h : y ∈ layA C x) : y = x ∨ y ∈ C := by
  unfold layA at h
  rcases mem_insW h with h | h
  · exact .inl h
  · exact .inr (List.mem_filter.1 h).1
theorem errA_ok {k : ByteArray} {z : List Nat} (h : errA k z = 0) : 1 ≤ k.size ∧ k.size ≤ 255 ∧ z.length ≤ 4096 := by
  unfold errA at h
  split at h
  · cases h
  · split at h
    · cases h
    · omega
theorem layA_fine {C : Wc} {k : ByteArray} {v : Ver} (h : FineW C) (he : errA k v.b = 0) (hn : v.n = 0) (hl : C.length + 1 ≤ 4000000000000) : FineW (layA C (k.data.toList, v)) := by
  obtain ⟨h1, h2, h3⟩ := errA_ok he
  refine ⟨Nat.le_trans (layA_len _ _) hl, fun e hm => ?_, fun e hm => ?_, fun e hm => ?_⟩
  · rcases mem_layA hm with rfl | hm
    · simp only [Array.length_toList]; exact ⟨h1, h2⟩
    · exact h.kl e hm
  · rcases mem_layA hm with rfl | hm
    · exact h3
    · exact h.vl e hm
  · rcases mem_layA hm with rfl | hm
    · exact hn
    · exact h.n0 e hm

section
variable {w w' : World} {F : Nat → Prop} {s : Nat} {M : List Vn}
/-- The map is made. -/
theorem wst_map (h : Wst w F s none M) : Wst ((w.alloc (.map #[] 0)).setCell ⟨s, 0, none⟩ (.map (some w.heap.size))) (upto F w (w.alloc (.map #[] 0))) s (some w.heap.size) M ∧ Chg F w ((w.alloc (.map #[] 0)).setCell ⟨s, 0, none⟩ (.map (some w.heap.size))) := by
  have hM := h.nomap rfl
  subst hM
  have hs := h.slt
  have h2 := (Below.heap_alloc w (.map #[] 0) s hs).trans h.blk
  refine ⟨⟨?_, (fun e => by cases e), fun b eb => ?_, (fun e he => by cases he), h.rise, h.fine, .inl h.fs, fun j hj => ?_⟩, ((Chg.refl _ w).alloc _).setCell _ _ fun _ => h.fs⟩
  · rw [heap_setCell_same _ s 0 _ _ _ h2]; rfl
  · cases eb
    refine ⟨ownsMap_hold (World.ownsMap_made w Try.prog 9 verR) (Below.heap_setCell _ _ _ _ (by show w.heap.size ≠ s; omega)), .inr ⟨Nat.le_refl _, by simp⟩⟩
  · rcases hj with hj | hj
    · have := h.lt j hj; simp; omega
    · simpa using hj.2
/-- A write is laid into the map. -/
theorem wst_lay {b : Nat} (h : Wst w F s (some b) M) {x : Vn} (hn : x.n = 0) (he : errA x.k x.z = 0) (hl : M.length + 1 ≤ 4000000000000) {w2 w3 : World} (hb2 : Below w.heap.size w w2)
    (hv : OwnB w2 w.heap.size (.slice x.a x.z.length x.c) x.z) (hg : w2.grownBy w3 (some b)) (ho : w3.ownsMap Try.prog 9 verR b (M.length + 1) ((datW M).put (.string (ky x)) (datX x))) (ho2 : w3.ownsMap Try.prog 9 verR b (layM M x).length ((datW M).put (.string (ky x)) (datX x))) :
    Wst w3 (upto F w w3) s (some b) (layM M x) ∧ Chg F w w3 := by
  have hz2 := hb2.size
  have hz3 := hg.size
  have hfb := (h.map b rfl).2
  have hbl := h.lt b hfb
  obtain ⟨es, clock, hbm, _⟩ := (h.map b rfl).1
  have old : ∀ j, j < w.heap.size → j ≠ b → w3.heap[j]? = w.heap[j]? := fun j hj hne => by
    rw [hg.block j (by omega) (fun e => hne (by cases e; rfl)), hb2.block j (by omega)]
  have cellsNe : ∀ j cur t, F j → w.heap[j]? = some (.cells cur t (0, 0)) → w3.heap[j]? = w.heap[j]? := fun j cur t hj he => old j (h.lt j hj) fun e => by rw [e, hbm] at he; cases he
  have hsay := says_layM x M
  refine ⟨⟨(cellsNe _ _ _ h.fs h.blk).trans h.blk, (fun e => by cases e), fun b' eb => ?_, fun e he => ?_, by rw [hsay]; exact layA_rise h.rise, by rw [hsay]; exact layA_fine h.fine he hn (by simpa [saysV] using hl), .inl h.fs, fun j hj => ?_⟩, ⟨?_, ?_, ?_, by omega, fun j hj hs => old j hj fun e => hs (e ▸ hfb)⟩⟩
  · cases eb
    rw [datW_layM]
    exact ⟨ho2, .inl hfb⟩
  · rcases mem_layM he with rfl | he
    · refine ⟨(hv.hold fun j hj => ?_).mono (Nat.zero_le _), fun j hj => ?_, hv.plain⟩
      · exact hg.block j (hv.inside j hj) fun e => by
          have := hv.ge hj
          cases e; omega
      · exact .inr ⟨hv.ge hj, Nat.lt_of_lt_of_le (hv.inside j hj) hz3⟩
    · have hk := h.each e he
      refine ⟨hk.b.hold fun j hj => ?_, fun j hj => .inl (hk.f j hj), hk.p⟩
      obtain ⟨cur, h5⟩ := hk.b.typed hj
      exact cellsNe j _ _ (hk.f j hj) h5
  · rcases hj with hj | hj
    · have := h.lt j hj; omega
    · exact hj.2
  · rw [hg.os, hb2.os]
  · rw [hg.tape, hb2.tape]
  · rw [hg.output, hb2.output]
end
theorem owns_len {w : World} {b n : Nat} {D : DataW Unit} (h : w.ownsMap Try.prog 9 verR b n D) : w.ownsMap Try.prog 9 verR b (Maps.size D) D := by
  obtain ⟨es, clock, hb, F, hs, rfl⟩ := h
  refine ⟨es, clock, hb, F, ?_, rfl⟩
  simp only [Maps.size]
  rw [length_sorted]; simp

theorem eqlSome (bm : Nat) (w : World) : (binOp .eql 30 (.map (some bm)) (.map none)).run Try.prog w = .ok (.bool false) w := by kernel_rfl
theorem eqlNil (w : World) : (binOp .eql 30 (.map none) (.map none)).run Try.prog w = .ok (.bool true) w := by kernel_rfl

set_option maxRecDepth 100000 in
set_option maxHeartbeats 4000000 in
/-- A write that is refused. -/
theorem write_no (s : Nat) (x : Vn) (w : World) (he : errA x.k x.z ≠ 0) : Calls Try.prog 37 #[.pointer (some ⟨s, 0, none⟩), verV x] w fun e w' => e = .returned (.int .i64 (errA x.k x.z)) ∧ Below w.heap.size w w' := by
  have hb : ∀ o, Below w.heap.size w (w.alloc o) := fun o => (Below.refl _ _).alloc (Nat.le_refl _) _
  obtain ⟨k, n, a, z, c, d⟩ := x
  unfold errA verV at *
  simp only [] at *
  generalize z.length = Z at *
  by_cases c1 : k.size < 1
  · have c1i : (k.size : Int) < 1 := by omega
    rw [if_pos (.inl c1)]
    clear he c1
    go_enter Try.func37, Try.ntmps37
    go_wp2
    go_ret
    exact ⟨rfl, hb _⟩
  · have c1i : ¬ (k.size : Int) < 1 := by omega
    by_cases c2 : 255 < k.size
    · have c2i : (k.size : Int) > 255 := by omega
      rw [if_pos (.inr c2)]
      clear he c1 c2
      go_enter Try.func37, Try.ntmps37
      go_wp2
      go_ret
      exact ⟨rfl, hb _⟩
    · have c2i : ¬ (k.size : Int) > 255 := by omega
      rw [if_neg (by omega)] at he ⊢
      by_cases c3 : 4096 < Z
      · have c3i : (Z : Int) > 4096 := by omega
        rw [if_pos c3]
        clear he c1 c2 c3
        go_enter Try.func37, Try.ntmps37
        go_wp2
        go_ret
        exact ⟨rfl, hb _⟩
      · rw [if_neg c3] at he; exact absurd rfl he
theorem write_none (v : Value) (w : World) (x : Vn) (hv : v = verV x) : Calls Try.prog 37 #[.pointer none, v] w fun e w' => e = .returned (.int .i64 1) ∧ Below w.heap.size w w' := by
  have hb : ∀ o, Below w.heap.size w (w.alloc o) := fun o => (Below.refl _ _).alloc (Nat.le_refl _) _
  subst hv
  unfold verV
  go_enter Try.func37, Try.ntmps37
  go_wp2
  go_ret
  exact ⟨rfl, hb _⟩

end Go.Proofs.Ytbafjkanbbcbgaa
