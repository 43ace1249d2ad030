/- Apply: a key that has no version begins a chain; the version goes behind the others. -/
import Derived.Test.YthaknohnccmfoaaSo3
namespace Go.Proofs.Ythaknohnccmfoaa
open Go.RowKit Go.Maps

section
variable {w w' : World} {F : Nat → Prop} {s : Nat} {mb : Option Nat} {M : List Ky}
theorem KyOk.hold2 {e : Ky} (h : KyOk w F e) (hk : ∀ j cur t, F j → w.heap[j]? = some (.cells cur t (0, 0)) → w'.heap[j]? = w.heap[j]?) : KyOk w' F e := by
  refine ⟨h.hn.keep fun j _ hj => ?_, h.len, fun i hi => ?_, h.kl, h.fc⟩
  · rcases hj with rfl | hj
    · exact hk _ _ _ (h.fc _ (.inl rfl)) h.hn.blk
    · obtain ⟨cur, h2⟩ := OwnS.type h.hn.own hj
      exact hk _ _ _ (h.fc _ (.inr hj)) h2
  · have hl := h.at_ i hi
    exact ⟨hl.n, hl.d, hl.b.hold fun j hj => by
      obtain ⟨cur, h2⟩ := hl.b.typed hj
      exact hk _ _ _ (hl.f j hj) h2, hl.f⟩
/-- The map is made. -/
theorem sto_map (h : Sto w F s none M) : Sto ((w.alloc (.map #[] 0)).setCell ⟨s, 0, none⟩ (.map (some w.heap.size))) (kY.upto F w (w.alloc (.map #[] 0))) s (some w.heap.size) M ∧ Chg F w ((w.alloc (.map #[] 0)).setCell ⟨s, 0, none⟩ (.map (some w.heap.size))) := by
  have hM := h.nomap rfl
  subst hM
  have hs := h.slt
  have h2 := (Below.heap_alloc w (.map #[] 0) s hs).trans h.blk
  refine ⟨⟨?_, (fun e => by cases e), fun b eb => ?_, (fun e he => by cases he), List.Pairwise.nil, List.Pairwise.nil, .inl h.fs, fun j hj => ?_⟩, ((Chg.refl _ w).alloc _).setCell _ _ fun _ => h.fs⟩
  · rw [heap_setCell_same _ s 0 _ _ _ h2]; rfl
  · cases eb
    refine ⟨ownsMap_hold (World.ownsMap_made w Try.prog 9 ptrR) (Below.heap_setCell _ _ _ _ (by show w.heap.size ≠ s; omega)), .inr ⟨Nat.le_refl _, by simp⟩⟩
  · rcases hj with hj | hj
    · have := h.lt j hj; simp; omega
    · simpa using hj.2
/-- A key without versions is laid in. -/
theorem sto_lay {b : Nat} (h : Sto w F s (some b) M) {k : List UInt8} (hn : ∀ f ∈ M, f.k ≠ k) (hkl : k.length ≤ maxLen) {w2 w3 : World} (hb2 : Below (w.alloc (.cells #[.slice none 0 0] 114)).heap.size (w.alloc (.cells #[.slice none 0 0] 114)) w2)
    (hg : w2.grownBy w3 (some b)) (ho : w3.ownsMap Try.prog 9 ptrR b (M.length + 1) ((datM M).put (.string k) (.lit (.int .i64 (w.heap.size : Int))))) :
    Sto w3 (kY.upto F w w3) s (some b) (insM ⟨k, w.heap.size, .slice none 0 0, [], []⟩ M) ∧ Chg F w w3 := by
  have hz1 : (w.alloc (.cells #[.slice none 0 0] 114)).heap.size = w.heap.size + 1 := by simp
  have hz2 := hb2.size
  have hz3 := hg.size
  rw [hz1] at hb2 hz2
  have hfb := (h.map b rfl).2
  have hbl := h.lt b hfb
  obtain ⟨es, clock, hbm, _⟩ := (h.map b rfl).1
  have old : ∀ j, j < w.heap.size → j ≠ b → w3.heap[j]? = w.heap[j]? := fun j hj hne => by
    rw [hg.block j (by omega) (fun e => hne (by cases e; rfl)), hb2.block j (by omega), Below.heap_alloc _ _ _ hj]
  have hc3 : w3.heap[w.heap.size]? = some (.cells #[.slice none 0 0] 114 (0, 0)) := by
    rw [hg.block _ (by omega) (fun e => by cases e; omega), hb2.block _ (by omega)]; exact heap_alloc_new w _
  have cellsNe : ∀ j cur t, F j → w.heap[j]? = some (.cells cur t (0, 0)) → w3.heap[j]? = w.heap[j]? := fun j cur t hj he => old j (h.lt j hj) fun e => by rw [e, hbm] at he; cases he
  refine ⟨⟨(cellsNe _ _ _ h.fs h.blk).trans h.blk, (fun e => by cases e), fun b' eb => ?_, fun e he => ?_, ?_, insM_rise h.rise hn, .inl h.fs, fun j hj => ?_⟩, ⟨?_, ?_, ?_, by omega, fun j hj hs => old j hj fun e => hs (e ▸ hfb)⟩⟩
  · cases eb
    rw [insM_len, datM_insM _ _ hn]
    exact ⟨ho, .inl hfb⟩
  · rcases (mem_insM _ _ _).1 he with rfl | he
    · refine ⟨⟨hc3, OwnS.nil _ _ _ _, kY.Good.nil, .inl rfl, (fun j e => by cases e)⟩, rfl, (fun i hi => by simp at hi), hkl, fun j hj => ?_⟩
      rcases hj with rfl | hj
      · exact .inr ⟨Nat.le_refl _, by show w.heap.size < _; omega⟩
      · cases hj
    · exact ((h.each e he).hold2 cellsNe).mono fun j hj => .inl hj
  · refine insM_pair (R := Apart) (fun _ _ => Apart.symm) h.apart fun f hf j h1 h2 => ?_
    have := h.lt j ((h.each f hf).fc j h2)
    rcases h1 with h1 | h1
    · have h1 : j = w.heap.size := h1
      omega
    · cases h1
  · rcases hj with hj | hj
    · have := h.lt j hj; omega
    · exact hj.2
  · rw [hg.os, hb2.os]; rfl
  · rw [hg.tape, hb2.tape]; rfl
  · rw [hg.output, hb2.output]; rfl
end

theorem eqlSome (bm : Nat) (w : World) : (binOp .eql 73 (.map (some bm)) (.map none)).run Try.prog w = .ok (.bool false) w := by kernel_rfl
theorem eqlNil (w : World) : (binOp .eql 73 (.map none) (.map none)).run Try.prog w = .ok (.bool true) w := by kernel_rfl
theorem chainZero : ∀ w, (Instr.build 114 #[]).run Try.prog w = .ok (.agg #[.slice none 0 0]) w := fun w => by kernel_rfl

set_option maxRecDepth 100000 in
set_option maxHeartbeats 2000000 in
/-- begin, where the map is there. -/
theorem begin_some {w : World} {F : Nat → Prop} {s b : Nat} {M : List Ky} (h : Sto w F s (some b) M) (key : ByteArray) (hk : key.size ≤ 140737488355328) (hn : kyOf M key.data.toList = none) (hM : M.length ≤ 4000000000000) :
    Calls Try.prog 56 #[.pointer (some ⟨s, 0, none⟩), .string key] w fun e w' => e = .returned (.pointer (some ⟨w.heap.size, 0, none⟩)) ∧ Sto w' (kY.upto F w w') s (some b) (insM ⟨key.data.toList, w.heap.size, .slice none 0 0, [], []⟩ M) ∧ Chg F w w' := by
  obtain ⟨c0, _⟩ := h.cell
  have hs := h.slt
  have hkl : key.size ≤ maxLen := by unfold maxLen; omega
  have hkey := WideMaps.keyOf_string_mk (P := Try.prog) Try.underlying9 hkl
  obtain ⟨W, hW⟩ : ∃ W, W = w.alloc (.cells #[.slice none 0 0] 114) := ⟨_, rfl⟩
  have hb0 : Below w.heap.size w W := by rw [hW]; exact (Below.refl _ _).alloc (Nat.le_refl _) _
  have hsW : s < W.heap.size := Nat.lt_of_lt_of_le hs hb0.size
  have c1 := (hb0.cell (p := ⟨s, 0, none⟩) hs).trans c0
  have kb := (hb0.block s hs).trans h.blk
  have hcl := fun z => textClone_any key z hk
  have hown := (h.map b rfl).1
  have hbl := h.lt b (h.map b rfl).2
  have hup : ∀ z, Below W.heap.size W z → ∃ z', (Instr.mapUpdate 73 (.map (some b)) (.string key) (.pointer (some ⟨w.heap.size, 0, none⟩))).run Try.prog z = .ok () z' ∧ Sto z' (kY.upto F w z') s (some b) (insM ⟨key.data.toList, w.heap.size, .slice none 0 0, [], []⟩ M) ∧ Chg F w z' := fun z hz => by
    have ho : z.ownsMap Try.prog 9 ptrR b M.length (datM M) := ownsMap_hold hown ((hz.block b (Nat.lt_of_lt_of_le hbl hb0.size)).trans (hb0.block b hbl))
    obtain ⟨z', h1, h2, h3⟩ := ho.update law_string Try.underlying73 (by unfold maxLen; omega) hkey (show ptrR (.pointer (some ⟨w.heap.size, 0, none⟩)) = some (.lit (.int .i64 (w.heap.size : Int)), []) from rfl)
    refine ⟨z', h1, sto_lay h (kyOf_none hn) (by rw [Array.length_toList]; exact hkl) (w2 := z) ?_ h3 h2⟩
    rw [← hW]; exact hz
  have hq1 := eqlSome
  clear h hown hn hM hkey hkl hk
  go_enter Try.func56, Try.ntmps56
  go_wp2_with fail
  rw [← hW]
  clear hW c0
  refine wp_region_held_drew (S := (fun w' => w'.heap[s]? = W.heap[s]?)) (by kernel_rfl) ?_ (fun hHeld => ?_)
  · rfl
  refine take_on (i := 0) (v := ?_) rfl rfl (by kernel_rfl) (by kernel_rfl) (by kernel_rfl) (fun _ _ _ h => h) rfl ?_ hHeld ?_
  rotate_left
  · (intro wq hSq; have q0 := (World.cell?_of_block (w := W) (a := ⟨s, 0, none⟩) hSq).trans c1; go_simp <;> first | with_reducible rfl | rfl)
  simp only [Act.put, List.setIfInBounds_toArray, List.set_cons_zero, List.set_cons_succ]
  refine take_on (i := 1) (v := ?_) rfl rfl (by kernel_rfl) (by kernel_rfl) (by kernel_rfl) (fun _ _ _ h => h) rfl ?_ hHeld ?_
  rotate_left
  · (intro wq hSq; have q0 := (World.cell?_of_block (w := W) (a := ⟨s, 0, none⟩) hSq).trans c1; go_simp <;> first | with_reducible rfl | rfl)
  simp only [Act.put, List.setIfInBounds_toArray, List.set_cons_zero, List.set_cons_succ]
  refine take_on (i := 2) (v := ?_) rfl rfl (by kernel_rfl) (by kernel_rfl) (by kernel_rfl) (fun _ _ _ h => h) rfl ?_ hHeld ?_
  rotate_left
  · (intro wq hSq; have q0 := (World.cell?_of_block (w := W) (a := ⟨s, 0, none⟩) hSq).trans c1; go_simp <;> first | with_reducible rfl | rfl)
  simp only [Act.put, List.setIfInBounds_toArray, List.set_cons_zero, List.set_cons_succ]
  refine take_on (i := 3) (v := ?_) rfl rfl (by kernel_rfl) (by kernel_rfl) (by kernel_rfl) (fun _ _ _ h => h) rfl ?_ hHeld ?_
  rotate_left
  · (intro wq hSq; have q0 := (World.cell?_of_block (w := W) (a := ⟨s, 0, none⟩) hSq).trans c1; go_simp <;> first | with_reducible rfl | rfl)
  simp only [Act.put, List.setIfInBounds_toArray, List.set_cons_zero, List.set_cons_succ]
  refine take_on (i := 4) (v := ?_) rfl rfl (by kernel_rfl) (by kernel_rfl) (by kernel_rfl) (fun _ _ _ h => h) rfl ?_ hHeld ?_
  rotate_left
  · (intro wq hSq; have q0 := (World.cell?_of_block (w := W) (a := ⟨s, 0, none⟩) hSq).trans c1; go_simp <;> first | with_reducible rfl | rfl)
  simp only [Act.put, List.setIfInBounds_toArray, List.set_cons_zero, List.set_cons_succ]
  refine take_on (i := 6) (v := ?_) rfl rfl (by kernel_rfl) (by kernel_rfl) (by kernel_rfl) (fun _ _ _ h => h) rfl ?_ hHeld ?_
  rotate_left
  · (intro wq hSq; have q0 := (World.cell?_of_block (w := W) (a := ⟨s, 0, none⟩) hSq).trans c1; go_simp <;> first | with_reducible rfl | rfl)
  simp only [Act.put, List.setIfInBounds_toArray, List.set_cons_zero, List.set_cons_succ]
  refine take_one (i := 5) rfl (by kernel_rfl) (fun K hK => ?_)
  go_simp
  (refine (hcl _).mono ?_; rintro e z1 ⟨rfl, hz1⟩; have hy1 : Below W.heap.size W z1 := (Below.refl _ _).drew.trans hz1; obtain ⟨z2, hrun, HR⟩ := hup z1 hy1; replace HR := hide_it HR)
  try go_wp2_with fail
  refine hK.out _ _ ?_ (fun hHeld => ?_)
  · exact hy1.block s hsW
  clear hK K
  try simp only [Act.put, List.setIfInBounds_toArray, List.set_cons_zero, List.set_cons_succ]
  refine take_one (i := 7) rfl (by kernel_rfl) (fun K hK => ?_)
  go_simp
  refine hK.out _ _ ?_ (fun hHeld => ?_)
  · exact HR.out.1.blk.trans kb.symm
  clear hK K
  try simp only [Act.put, List.setIfInBounds_toArray, List.set_cons_zero, List.set_cons_succ]
  refine wpAnyH_done (by kernel_rfl) ?_ _
  go_wp2
  go_ret
  exact ⟨rfl, HR.out⟩

end Go.Proofs.Ythaknohnccmfoaa
