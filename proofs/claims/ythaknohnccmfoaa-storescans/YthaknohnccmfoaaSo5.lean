/- Apply. -/
import Derived.Test.YthaknohnccmfoaaSo4
namespace Go.Proofs.Ythaknohnccmfoaa
open Go.RowKit Go.Maps

theorem upto_step {F F1 : Nat → Prop} {w w1 w' : World} (h1 : ∀ j, F1 j → kY.upto F w w1 j) (hz : w.heap.size ≤ w1.heap.size) (hz' : w1.heap.size ≤ w'.heap.size) : ∀ j, kY.upto F1 w1 w' j → kY.upto F w w' j := fun j hj => by
  rcases hj with hj | hj
  · rcases h1 j hj with h | h
    · exact .inl h
    · exact .inr ⟨h.1, Nat.lt_of_lt_of_le h.2 hz'⟩
  · exact .inr ⟨Nat.le_trans hz hj.1, hj.2⟩
theorem upto_in {F : Nat → Prop} {w w' : World} (h : ∀ j, F j → j < w.heap.size) (hz : w.heap.size ≤ w'.heap.size) : ∀ j, kY.upto F w w' j → j < w'.heap.size := fun j hj => by
  rcases hj with hj | hj
  · exact Nat.lt_of_lt_of_le (h j hj) hz
  · exact hj.2
theorem chg_step {F F1 : Nat → Prop} {w w1 w' : World} (h : Chg F w w1) (k : Chg F1 w1 w') (h1 : ∀ j, F1 j → kY.upto F w w1 j) : Chg F w w' := h.trans k fun j hj hF => by
  rcases h1 j hF with h | h
  · exact h
  · omega

set_option maxRecDepth 100000 in
set_option maxHeartbeats 2000000 in
theorem begin_none {w : World} {F : Nat → Prop} {s : Nat} {M : List Ky} (h : Sto w F s none M) (key : ByteArray) (hk : key.size ≤ 140737488355328) :
    Calls Try.prog 56 #[.pointer (some ⟨s, 0, none⟩), .string key] w fun e w' => ∃ c b, e = .returned (.pointer (some ⟨c, 0, none⟩)) ∧ Sto w' (kY.upto F w w') s (some b) (insM ⟨key.data.toList, c, .slice none 0 0, [], []⟩ M) ∧ Chg F w w' := by
  obtain ⟨c0, f0⟩ := h.cell
  have hs := h.slt
  have hM := h.nomap rfl
  have hkl : key.size ≤ maxLen := by unfold maxLen; omega
  have hkey := WideMaps.keyOf_string_mk (P := Try.prog) Try.underlying9 hkl
  obtain ⟨h1, hc1⟩ := sto_map h
  obtain ⟨w1, hw1⟩ : ∃ w1, w1 = (w.alloc (.map #[] 0)).setCell ⟨s, 0, none⟩ (.map (some w.heap.size)) := ⟨_, rfl⟩
  have hz1 : w1.heap.size = w.heap.size + 1 := by rw [hw1]; simp
  rw [← hw1] at h1 hc1
  have hF1 : ∀ j, kY.upto F w (w.alloc (.map #[] 0)) j → kY.upto F w w1 j := fun j hj => hj.imp id fun e => ⟨e.1, by have := e.2; simp at this; omega⟩
  have ca : (w.alloc (.map #[] 0)).cell? ⟨s, 0, none⟩ = some (.map none) := (((Below.refl w.heap.size w).alloc (Nat.le_refl _) (.map #[] 0)).cell (p := ⟨s, 0, none⟩) hs).trans c0
  have fa : (w.alloc (.map #[] 0)).frozen? ⟨s, 0, none⟩ = false := (((Below.refl w.heap.size w).alloc (Nat.le_refl _) (.map #[] 0)).frozen (p := ⟨s, 0, none⟩) hs).trans (f0 0)
  obtain ⟨W, hW⟩ : ∃ W, W = w1.alloc (.cells #[.slice none 0 0] 114) := ⟨_, rfl⟩
  have hb0 : Below w1.heap.size w1 W := by rw [hW]; exact (Below.refl _ _).alloc (Nat.le_refl _) _
  have hs1 : s < w1.heap.size := by omega
  have hsW : s < W.heap.size := Nat.lt_of_lt_of_le hs1 hb0.size
  have c1 := (hb0.cell (p := ⟨s, 0, none⟩) hs1).trans h1.cell.1
  have kb := (hb0.block s hs1).trans h1.blk
  have hcl := fun z => textClone_any key z hk
  have hbl := h1.lt w.heap.size (h1.map w.heap.size rfl).2
  have hown := (h1.map w.heap.size rfl).1
  have hup : ∀ z, Below W.heap.size W z → ∃ z', (Instr.mapUpdate 73 (.map (some w.heap.size)) (.string key) (.pointer (some ⟨w1.heap.size, 0, none⟩))).run Try.prog z = .ok () z' ∧ Sto z' (kY.upto F w z') s (some w.heap.size) (insM ⟨key.data.toList, w1.heap.size, .slice none 0 0, [], []⟩ M) ∧ Chg F w z' := fun z hz => by
    have ho : z.ownsMap Try.prog 9 ptrR w.heap.size M.length (datM M) := ownsMap_hold hown ((hz.block w.heap.size (Nat.lt_of_lt_of_le hbl hb0.size)).trans (hb0.block w.heap.size hbl))
    obtain ⟨z', g1, g2, g3⟩ := ho.update law_string Try.underlying73 (by rw [hM]; simp [maxLen]) hkey (show ptrR (.pointer (some ⟨w1.heap.size, 0, none⟩)) = some (.lit (.int .i64 (w1.heap.size : Int)), []) from rfl)
    obtain ⟨hs', hc'⟩ := sto_lay h1 (by rw [hM]; intro f hf; cases hf) (by rw [Array.length_toList]; exact hkl) (w2 := z) (by rw [← hW]; exact hz) g3 g2
    have hzz : w1.heap.size ≤ z'.heap.size := hc'.size
    exact ⟨z', g1, hs'.mono (upto_step hF1 (by omega) hzz) (upto_in h.lt (by omega)), chg_step hc1 hc' hF1⟩
  simp only [hz1] at hup
  have hq1 := eqlNil
  have hmm := @run_makeMap Try.prog
  clear h h1 hc1 hF1 hown hM hkey hkl hk
  go_enter Try.func56, Try.ntmps56
  go_wp2_with fail
  rw [show ((w.setCell ⟨s, 0, none⟩ (.map (some w.heap.size))).alloc (.map #[] 0)) = w1 by rw [hw1, World.setCell_alloc_past _ _ _ _ hs], ← hW]
  have hzw : W.heap.size = w1.heap.size + 1 := by rw [hW]; simp
  clear hW hw1 c0 ca fa f0
  refine wp_region_held_drew (S := (fun w' => w'.heap[s]? = W.heap[s]?)) (by kernel_rfl) ?_ (fun hHeld => ?_)
  · rfl
  refine take_on (i := 0) (v := ?_) rfl rfl (by kernel_rfl) (by kernel_rfl) (by kernel_rfl) (fun _ _ _ h => h) rfl ?_ hHeld ?_
  rotate_left
  · (intro wq hSq; have q0 := (World.cell?_of_block (w := W) (a := ⟨s, 0, none⟩) hSq).trans c1; go_simp <;> first | with_reducible rfl | rfl)
  simp only [Act.put, List.setIfInBounds_toArray, List.set_cons_zero, List.set_cons_succ]
  refine take_on (i := 1) (v := ?_) rfl rfl (by kernel_rfl) (by kernel_rfl) (by kernel_rfl) (fun _ _ _ h => h) rfl ?_ hHeld ?_
  rotate_left
  · (intro wq hSq; have q0 := (World.cell?_of_block (w := W) (a := ⟨s, 0, none⟩) hSq).trans c1; go_simp <;> first | with_reducible rfl | rfl)
  simp only [Act.put, List.setIfInBounds_toArray, List.set_cons_zero, List.set_cons_succ]
  refine take_on (i := 2) (v := ?_) rfl rfl (by kernel_rfl) (by kernel_rfl) (by kernel_rfl) (fun _ _ _ h => h) rfl ?_ hHeld ?_
  rotate_left
  · (intro wq hSq; have q0 := (World.cell?_of_block (w := W) (a := ⟨s, 0, none⟩) hSq).trans c1; go_simp <;> first | with_reducible rfl | rfl)
  simp only [Act.put, List.setIfInBounds_toArray, List.set_cons_zero, List.set_cons_succ]
  refine take_on (i := 3) (v := ?_) rfl rfl (by kernel_rfl) (by kernel_rfl) (by kernel_rfl) (fun _ _ _ h => h) rfl ?_ hHeld ?_
  rotate_left
  · (intro wq hSq; have q0 := (World.cell?_of_block (w := W) (a := ⟨s, 0, none⟩) hSq).trans c1; go_simp <;> first | with_reducible rfl | rfl)
  simp only [Act.put, List.setIfInBounds_toArray, List.set_cons_zero, List.set_cons_succ]
  refine take_on (i := 4) (v := ?_) rfl rfl (by kernel_rfl) (by kernel_rfl) (by kernel_rfl) (fun _ _ _ h => h) rfl ?_ hHeld ?_
  rotate_left
  · (intro wq hSq; have q0 := (World.cell?_of_block (w := W) (a := ⟨s, 0, none⟩) hSq).trans c1; go_simp <;> first | with_reducible rfl | rfl)
  simp only [Act.put, List.setIfInBounds_toArray, List.set_cons_zero, List.set_cons_succ]
  refine take_on (i := 6) (v := ?_) rfl rfl (by kernel_rfl) (by kernel_rfl) (by kernel_rfl) (fun _ _ _ h => h) rfl ?_ hHeld ?_
  rotate_left
  · (intro wq hSq; have q0 := (World.cell?_of_block (w := W) (a := ⟨s, 0, none⟩) hSq).trans c1; go_simp <;> first | with_reducible rfl | rfl)
  simp only [Act.put, List.setIfInBounds_toArray, List.set_cons_zero, List.set_cons_succ]
  refine take_one (i := 5) rfl (by kernel_rfl) (fun K hK => ?_)
  go_simp
  (refine (hcl _).mono ?_; rintro e z1 ⟨rfl, hz1⟩; have hy1 : Below W.heap.size W z1 := (Below.refl _ _).drew.trans hz1; obtain ⟨z2, hrun, HR⟩ := hup z1 hy1; replace HR := hide_it HR)
  try go_wp2_with fail
  refine hK.out _ _ ?_ (fun hHeld => ?_)
  · exact hy1.block s hsW
  clear hK K
  try simp only [Act.put, List.setIfInBounds_toArray, List.set_cons_zero, List.set_cons_succ]
  refine take_one (i := 7) rfl (by kernel_rfl) (fun K hK => ?_)
  go_simp
  refine hK.out _ _ ?_ (fun hHeld => ?_)
  · exact HR.out.1.blk.trans kb.symm
  clear hK K
  try simp only [Act.put, List.setIfInBounds_toArray, List.set_cons_zero, List.set_cons_succ]
  refine wpAnyH_done (by kernel_rfl) ?_ _
  go_wp2
  go_ret
  exact ⟨_, _, rfl, HR.out⟩

theorem begin_any {w : World} {F : Nat → Prop} {s : Nat} {mb : Option Nat} {M : List Ky} (h : Sto w F s mb M) (key : ByteArray) (hk : key.size ≤ 140737488355328) (hn : kyOf M key.data.toList = none) (hM : M.length ≤ 4000000000000) :
    Calls Try.prog 56 #[.pointer (some ⟨s, 0, none⟩), .string key] w fun e w' => ∃ c b, e = .returned (.pointer (some ⟨c, 0, none⟩)) ∧ Sto w' (kY.upto F w w') s (some b) (insM ⟨key.data.toList, c, .slice none 0 0, [], []⟩ M) ∧ Chg F w w' := by
  cases mb with
  | none => exact begin_none h key hk
  | some b => exact (begin_some h key hk hn hM).mono fun e w' ⟨h1, h2⟩ => ⟨_, _, h1, h2⟩

/-! ### what an Apply makes of the content -/
def verOf (x : Vn) : Ver := ⟨x.n, x.z, x.d⟩
/-- A version behind a key's others. -/
def addA (A : Cont) (k : List UInt8) (l : Ver) : Cont := setA (if hasK A k then A else insA k A) k (lsOf A k ++ [l])
/-- Is a stamp too low? -/
def lowV (ls : List Ver) (n : Int) : Prop := 0 < ls.length ∧ n ≤ (vr ls (ls.length - 1)).n
instance (ls : List Ver) (n : Int) : Decidable (lowV ls n) := by unfold lowV; infer_instance
def applyE (A : Cont) (x : Vn) : Int := if checkE x ≠ 0 then checkE x else if lowV (lsOf A x.k.data.toList) x.n then 130 else 0
def applyA (A : Cont) (x : Vn) : Cont := if applyE A x = 0 then addA A x.k.data.toList (verOf x) else A
theorem checkE_low {x : Vn} (h : checkE x = 0) : 0 ≤ x.n ∧ x.n ≤ 4611686018427387904 ∧ x.z.length ≤ 4096 ∧ 1 ≤ x.k.size ∧ x.k.size ≤ 255 ∧ (x.d = true → x.z.length = 0) := by
  unfold checkE at h
  split at h
  · cases h
  · split at h
    · cases h
    · split at h
      · cases h
      · next h1 h2 h3 => exact ⟨by omega, by omega, by omega, by omega, by omega, fun e => by
          have : ¬ (x.d = true ∧ 0 < x.z.length) := fun e => h2 (.inr e)
          simp [e] at this; simp [this]⟩

section
variable {w w' : World} {F : Nat → Prop} {s : Nat} {mb : Option Nat} {M : List Ky}
theorem setA_same {e : Ky} (h : Sto w F s mb M) (he : e ∈ M) : setA (abs M) e.k e.ls = abs M := by
  unfold setA abs
  rw [List.map_map]
  refine List.map_congr_left fun f hf => ?_
  simp only [Function.comp]
  by_cases hk : (f.k == e.k) = true
  · rw [if_pos hk]
    have : f = e := one_key h.rise hf he (by simpa using hk)
    rw [this]
  · rw [if_neg hk]
/-- A chain was turned: what its links read as stands. -/
theorem links_keep {e : Ky} (hk : KyOk w F e) (hl : ∀ j, F j → j < w.heap.size) (hc : Chg (Fc e.c e.v) w w') : ∀ i, i < e.xs.length → LinkIs w' (kY.upto F w w') (kY.lk e.xs i) (vr e.ls i) := fun i hi => by
  have h := hk.at_ i hi
  exact ⟨h.n, h.d, h.b.hold fun j hj => hc.block j (hl j (h.f j hj)) (fc_ne_val hk.hn h.b hj), fun j hj => .inl (h.f j hj)⟩
theorem sto_add (h : Sto w F s mb M) {e : Ky} (he : e ∈ M) {x : kY.Lk} {l : Ver} (hx : LinkIs w F x l) (hr : ¬ kY.refu e.xs x) (k : kY.HnTo w (Fc e.c e.v) e.c e.v e.xs (kY.addL e.xs x) w') : ∃ M', Sto w' (kY.upto F w w') s mb M' ∧ abs M' = setA (abs M) e.k (e.ls ++ [l]) := by
  have hk := h.each e he
  obtain ⟨v', hv⟩ := k.hn
  have ex : kY.addL e.xs x = e.xs ++ [x] := if_neg hr
  rw [ex] at hv
  refine ⟨_, h.turn he k.chg hv (ls' := e.ls ++ [l]) (by simp [hk.len]) fun i hi => ?_, abs_setM _ _ _ _ _⟩
  rw [List.length_append] at hi
  simp at hi
  by_cases hi2 : i < e.xs.length
  · rw [kY.lk_left hi2, vr_left (by rw [← hk.len]; exact hi2)]
    exact links_keep hk h.lt k.chg i hi2
  · obtain rfl : i = e.xs.length := by omega
    rw [kY.lk_last, hk.len, vr_last]
    exact ⟨hx.n, hx.d, hx.b.hold fun j hj => k.chg.block j (h.lt j (hx.f j hj)) (fc_ne_val hk.hn hx.b hj), fun j hj => .inl (hx.f j hj)⟩
theorem sto_same (h : Sto w F s mb M) {e : Ky} (he : e ∈ M) (k : kY.HnTo w (Fc e.c e.v) e.c e.v e.xs e.xs w') : ∃ M', Sto w' (kY.upto F w w') s mb M' ∧ abs M' = abs M := by
  have hk := h.each e he
  obtain ⟨v', hv⟩ := k.hn
  exact ⟨_, h.turn he k.chg hv hk.len (links_keep hk h.lt k.chg), by rw [abs_setM]; exact setA_same h he⟩
theorem refu_low {e : Ky} (hk : KyOk w F e) {x : kY.Lk} (h0 : 0 ≤ x.n) : kY.refu e.xs x ↔ lowV e.ls x.n := by
  unfold kY.refu lowV
  rw [hk.len]
  by_cases hz : e.ls.length = 0
  · simp [hz]; omega
  · rw [(hk.at_ (e.ls.length - 1) (by rw [hk.len]; omega)).n]
    constructor
    · rintro (h | h)
      · omega
      · exact h
    · exact .inr
/-- What Add does to the store. -/
theorem sto_added (h : Sto w F s mb M) {e : Ky} (he : e ∈ M) {x : kY.Lk} {l : Ver} (hx : LinkIs w F x l) (h0 : 0 ≤ x.n) (k : kY.HnTo w (Fc e.c e.v) e.c e.v e.xs (kY.addL e.xs x) w') :
    ∃ M', Sto w' (kY.upto F w w') s mb M' ∧ abs M' = (if lowV e.ls x.n then abs M else setA (abs M) e.k (e.ls ++ [l])) := by
  have hk := h.each e he
  by_cases hr : kY.refu e.xs x
  · rw [if_pos ((refu_low hk h0).1 hr)]
    rw [show kY.addL e.xs x = e.xs from if_pos hr] at k
    exact sto_same h he k
  · rw [if_neg (fun e1 => hr ((refu_low hk h0).2 e1))]
    exact sto_add h he hx hr k
end

theorem insM_has {M : List Ky} {e0 : Ky} (hn : kyOf M e0.k = none) : ∃ e, e ∈ insM e0 M ∧ e = e0 ∧ hasK (abs M) e0.k = false ∧ lsOf (abs M) e0.k = [] := by
  refine ⟨e0, (mem_insM _ _ _).2 (.inl rfl), rfl, ?_, ?_⟩
  · rw [hasK_abs, hn]; rfl
  · rw [lsOf_abs, hn]; rfl

/-- What Apply does. -/
structure AppTo (w : World) (F : Nat → Prop) (s : Nat) (A : Cont) (x : Vn) (w' : World) : Prop where
  st : ∃ mb M, Sto w' (kY.upto F w w') s mb M ∧ abs M = applyA A x
  chg : Chg F w w'

end Go.Proofs.Ythaknohnccmfoaa
