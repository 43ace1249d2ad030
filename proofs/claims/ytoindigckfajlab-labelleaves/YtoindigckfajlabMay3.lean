/- A config as the document's: what it holds. -/
import Derived.Test.YtoindigckfajlabMay2
import Derived.Test.YtoindigckfajlabReg2
import Derived.Lib.SliceRun
import Derived.Deep.DeepCutAuto
namespace Go.Proofs.Ytoindigckfajlab
open Go.RowKit

theorem infoIntM : (Try.prog.info? 3).map (fun i => (i.zero, i.size, i.bytes)) = some (some (.int .i64 0), 1, 8) := by kernel_rfl
theorem infoAcc : (Try.prog.info? 78).map (fun i => (i.zero, i.size, i.bytes)) = some (some (.agg #[.int .i64 0, .int .i64 0, .int .i64 0, .int .i64 0, .int .i64 0]), 5, 40) := by kernel_rfl

def sesL (S : Nat → Int) (k : Nat) : List Value := (List.range k).map fun i => .int .i64 (S i)
theorem sesL_at {S : Nat → Int} {k i : Nat} (h : i < k) : (sesL S k)[i]? = some (.int .i64 (S i)) := by
  unfold sesL; rw [List.getElem?_map, List.getElem?_range h]; rfl
theorem sesL_len (S : Nat → Int) (k : Nat) : (sesL S k).length = k := by simp [sesL]

theorem rowZ_of_owns {w : World} {base k : Nat} {v : Value} {S : Nat → Int} (h : w.ownsRow base 3 1 v k (sesL S k)) : ∃ a cap, v = .slice a k cap ∧ RowZ w a k S := by
  rcases h.2 with ⟨rfl, h0⟩ | ⟨g, cap, cur, rfl, _, hh, hn, _, _, ht⟩
  · exact ⟨none, 0, by rw [h0], .inl h0⟩
  · refine ⟨_, cap, rfl, .inr ⟨g, 0, rfl, (Array.getElem?_eq_some_iff.1 hh).1, fun i hi => ?_⟩⟩
    rw [Nat.zero_add, cell_of_row _ _ _ _ _ _ hh]
    have h3 : (cur.toList.take (k * 1))[i]? = (sesL S k)[i]? := by rw [ht]
    rw [List.getElem?_take_of_lt (by omega)] at h3
    rw [← Array.getElem?_toList, h3]
    exact sesL_at hi

theorem sess_run (c : Option Addr) (cc k : Nat) (S : Nat → Int) (w : World) (hS : RowZ w c k S) (hnil : c = none → k = 0 ∧ cc = 0) (hk : 8 * k ≤ 140737488355328) :
    ∃ c2 cc2 w', (Builtin.append_ #[42, 42] 42 #[.slice none 0 0, .slice c k cc]).run Try.prog w = .ok (.slice c2 k cc2) w' ∧ RowZ w' c2 k S ∧ Below w.heap.size w w' := by
  obtain ⟨i0, hi, hz0, hz1, hz2⟩ := info_parts infoIntM
  cases c with
  | none =>
    obtain ⟨rfl, rfl⟩ := hnil rfl
    exact ⟨none, 0, w, run_append_owned_none w w.heap.size 42 42 3 i0 1 Try.underlying42 hi (.slice none 0 0) 0 [] (World.ownsRow_nil _ _ _ _), .inl rfl, Below.refl _ _⟩
  | some ad =>
    have hnews : ∀ j u, (sesL S k)[j]? = some u → w.cell? (ad.add j) = some u := fun j u hu => by
      have hj : j < k := by have := (List.getElem?_eq_some_iff.1 hu).1; rw [sesL_len] at this; exact this
      obtain ⟨b, o, e, hb, hc⟩ := hS.here hj
      cases e
      rw [Addr.add_lit, hc j hj, ← sesL_at hj]; exact hu
    have hone : ∀ u ∈ sesL S k, u.oneCell' = true := fun u hu => by
      obtain ⟨z, _, rfl⟩ := List.mem_map.1 hu
      rfl
    obtain ⟨v', w', hr, hown, hg, _, _⟩ := run_append_own_at (P := Try.prog) w w.heap.size 42 42 3 i0 (.int .i64 0) 1 8 Try.underlying42 hi hz0 hz1 hz2 rfl (by omega) (.slice none 0 0) 0 [] (World.ownsRow_nil _ _ _ _) ad k cc (sesL S k) (by rw [sesL_len]; omega) hnews hone (by unfold maxLen; omega) (by omega) (Nat.le_refl _)
    rw [Nat.zero_add, List.nil_append] at hown
    obtain ⟨a2, c2, rfl, hz⟩ := rowZ_of_owns hown
    exact ⟨a2, c2, w', hr, hz, (Below.refl _ _).grown hg (Nat.le_refl _) (fun j e => by cases e)⟩

def accL (A : Nat → Int) : List Value := [.int .i64 (A 0), .int .i64 (A 1), .int .i64 (A 2), .int .i64 (A 3), .int .i64 (A 4)]
def accsL (A : Nat → Nat → Int) (n : Nat) : List Value := (List.range n).flatMap fun i => accL (A i)
theorem accsL_succ (A : Nat → Nat → Int) (n : Nat) : accsL A (n + 1) = accsL A n ++ accL (A n) := by
  unfold accsL; rw [List.range_succ, List.flatMap_append]; simp
theorem accsL_len (A : Nat → Nat → Int) (n : Nat) : (accsL A n).length = n * 5 := by
  induction n with
  | zero => rfl
  | succ n ih => rw [accsL_succ, List.length_append, ih, Nat.succ_mul]; rfl
theorem accL_at {A : Nat → Int} {j : Nat} (h : j < 5) : (accL A)[j]? = some (.int .i64 (A j)) := by
  match j, h with
  | 0, _ => rfl
  | 1, _ => rfl
  | 2, _ => rfl
  | 3, _ => rfl
  | 4, _ => rfl
theorem accsL_at (A : Nat → Nat → Int) : ∀ n i j, i < n → j < 5 → (accsL A n)[i * 5 + j]? = some (.int .i64 (A i j)) := by
  intro n
  induction n with
  | zero => intro i j h; omega
  | succ n ih =>
    intro i j hi hj
    rw [accsL_succ]
    by_cases e : i = n
    · subst e
      rw [List.getElem?_append_right (by rw [accsL_len]; omega), accsL_len]
      rw [show i * 5 + j - i * 5 = j by omega]
      exact accL_at hj
    · rw [List.getElem?_append_left (by rw [accsL_len]; omega)]
      exact ih i j (by omega) hj

theorem rowA_of_owns {w : World} {base n : Nat} {v : Value} {A : Nat → Nat → Int} (h : w.ownsRow base 78 5 v n (accsL A n)) : ∃ a cap, v = .slice a n cap ∧ RowA w a n A := by
  rcases h.2 with ⟨rfl, h0⟩ | ⟨g, cap, cur, rfl, _, hh, hn, _, _, ht⟩
  · exact ⟨none, 0, by rw [h0], .inl h0⟩
  · refine ⟨_, cap, rfl, .inr ⟨g, 0, rfl, (Array.getElem?_eq_some_iff.1 hh).1, fun i hi j hj => ?_⟩⟩
    rw [Nat.zero_add, cell_of_row _ _ _ _ _ _ hh]
    have h3 : (cur.toList.take (n * 5))[i * 5 + j]? = (accsL A n)[i * 5 + j]? := by rw [ht]
    rw [List.getElem?_take_of_lt (by omega)] at h3
    rw [← Array.getElem?_toList, h3]
    exact accsL_at A n i j hi hj

/-- No number among a block's cells. -/
def noInt (cs : Array Value) : Prop := ∀ (i : Nat) (q : IntKind) (m : Int), cs[i]? ≠ some (.int q m)
theorem noInt3 (a b c : Option Addr) (x1 x2 y1 y2 z1 z2 : Nat) : noInt #[.slice a x1 x2, .slice b y1 y2, .slice c z1 z2] := by
  intro i q m h
  match i, h with
  | 0, h => simp at h
  | 1, h => simp at h
  | 2, h => simp at h
  | i + 3, h => simp at h

theorem Row.far {w w' : World} {a : Option Addr} {zs : List Nat} {g : Nat} {cs : Array Value} {t : TypeId} {q : Nat × Nat} (h : Row w a zs) (hg : w.heap[g]? = some (.cells cs t q)) (hn : noInt cs) (hgr : w.grownBy w' (some g)) : Row w' a zs := by
  by_cases h0 : zs.length = 0
  · exact .inl h0
  · obtain ⟨b, o, e, hb, hc⟩ := h.here (i := 0) (by omega)
    have hne : b ≠ g := by
      rintro rfl
      have h1 := hc 0 (by omega)
      rw [cell_of_row _ _ _ _ _ _ hg] at h1
      exact hn _ _ _ h1
    exact .inr ⟨b, o, e, Nat.lt_of_lt_of_le hb hgr.size, fun i hi => by rw [World.cell?_of_block (a := ⟨b, o + i, none⟩) (hgr.block b hb (fun e => hne (by simpa using e)))]; exact hc i hi⟩
theorem RowZ.far {w w' : World} {a : Option Addr} {n : Nat} {S : Nat → Int} {g : Nat} {cs : Array Value} {t : TypeId} {q : Nat × Nat} (h : RowZ w a n S) (hg : w.heap[g]? = some (.cells cs t q)) (hn : noInt cs) (hgr : w.grownBy w' (some g)) : RowZ w' a n S := by
  by_cases h0 : n = 0
  · exact .inl h0
  · obtain ⟨b, o, e, hb, hc⟩ := h.here (i := 0) (by omega)
    have hne : b ≠ g := by
      rintro rfl
      have h1 := hc 0 (by omega)
      rw [cell_of_row _ _ _ _ _ _ hg] at h1
      exact hn _ _ _ h1
    exact .inr ⟨b, o, e, Nat.lt_of_lt_of_le hb hgr.size, fun i hi => by rw [World.cell?_of_block (a := ⟨b, o + i, none⟩) (hgr.block b hb (fun e => hne (by simpa using e)))]; exact hc i hi⟩

theorem RowA.far {w w' : World} {a : Option Addr} {n : Nat} {A : Nat → Nat → Int} {g : Nat} {cs : Array Value} {t : TypeId} {q : Nat × Nat} (h : RowA w a n A) (hg : w.heap[g]? = some (.cells cs t q)) (hn : noInt cs) (hgr : w.grownBy w' (some g)) : RowA w' a n A := by
  by_cases h0 : n = 0
  · exact .inl h0
  · obtain ⟨b, o, e, hb, hc⟩ := h.here (i := 0) (by omega)
    have hne : b ≠ g := by
      rintro rfl
      have h1 := hc 0 (by omega) 0 (by omega)
      rw [cell_of_row _ _ _ _ _ _ hg] at h1
      exact hn _ _ _ h1
    exact .inr ⟨b, o, e, Nat.lt_of_lt_of_le hb hgr.size, fun i hi j hj => by rw [World.cell?_of_block (a := ⟨b, o + i * 5 + j, none⟩) (hgr.block b hb (fun e => hne (by simpa using e)))]; exact hc i hi j hj⟩

theorem grownBy_refl (w : World) (r : Option Nat) : w.grownBy w r := ⟨rfl, rfl, rfl, Nat.le_refl _, fun _ _ _ => rfl⟩
theorem grownBy_set {w w' : World} {g : Nat} (h : w.grownBy w' (some g)) (i : Nat) (v : Value) : w.grownBy (w'.setCell ⟨g, i, none⟩ v) (some g) :=
  ⟨h.os, h.tape, h.output, by simpa using h.size, fun k hk hne => by
    rw [Below.heap_setCell _ _ _ _ (fun e => hne (by rw [e]))]; exact h.block k hk hne⟩

theorem ownsRow_block {w w' : World} {base e size n : Nat} {v : Value} {xs : List Value} (h : w.ownsRow base e size v n xs) (hb : ∀ b, v.ownBlock = some b → w'.heap[b]? = w.heap[b]?) : w'.ownsRow base e size v n xs := by
  refine ⟨h.1, ?_⟩
  rcases h.2 with h0 | ⟨g, cap, cur, rfl, h1, h2, h3⟩
  · exact .inl h0
  · exact .inr ⟨g, cap, cur, rfl, h1, (hb g rfl).trans h2, h3⟩
theorem slice_of_owns {w : World} {base e size n : Nat} {v : Value} {xs : List Value} (h : w.ownsRow base e size v n xs) : ∃ a c, v = .slice a n c := by
  rcases h.2 with ⟨rfl, h0⟩ | ⟨g, cap, cur, rfl, hb, _⟩
  · exact ⟨none, 0, by rw [h0]⟩
  · exact ⟨_, _, rfl⟩
theorem own_geM {w : World} {base e size n j : Nat} {v : Value} {xs : List Value} (h : w.ownsRow base e size v n xs) (hj : v.ownBlock = some j) : base ≤ j := by
  rcases h.2 with ⟨rfl, _⟩ | ⟨g, cap, cur, rfl, hb, _⟩
  · cases hj
  · cases hj; exact hb
theorem cells_five_new (w : World) (A : Nat → Int) (t : TypeId) : ∀ j u, (accL A)[j]? = some u → (w.alloc (.cells #[.int .i64 (A 0), .int .i64 (A 1), .int .i64 (A 2), .int .i64 (A 3), .int .i64 (A 4)] t)).cell? ((⟨w.heap.size, 0, none⟩ : Addr).add j) = some u := by
  intro j u hj
  have h5 : j < 5 := (List.getElem?_eq_some_iff.1 hj).1
  rw [accL_at h5] at hj
  rw [Addr.add_lit, Nat.zero_add, cell_of_row _ _ _ _ _ _ (heap_alloc_new w _)]
  match j, h5, hj with
  | 0, _, hj => exact hj
  | 1, _, hj => exact hj
  | 2, _, hj => exact hj
  | 3, _, hj => exact hj
  | 4, _, hj => exact hj

/-- What stands through the first statement: nothing older was written; two fields of the parameter. -/
def SP (W0 : World) (p : Nat) (u0 u2 : Value) (w' : World) : Prop := Below W0.heap.size W0 w' ∧ w'.cell? ⟨p, 0, none⟩ = some u0 ∧ w'.cell? ⟨p, 2, none⟩ = some u2
theorem SP.next {W0 : World} {p : Nat} {u0 u2 : Value} {w1 w2 : World} (h : SP W0 p u0 u2 w1) (hp : p < W0.heap.size) (hb : Below w1.heap.size w1 w2) : SP W0 p u0 u2 w2 := by
  obtain ⟨h1, h2, h3⟩ := h
  have hl : p < w1.heap.size := Nat.lt_of_lt_of_le hp h1.size
  exact ⟨h1.trans (hb.mono h1.size), (hb.cell (p := ⟨p, 0, none⟩) hl).trans h2, (hb.cell (p := ⟨p, 2, none⟩) hl).trans h3⟩

theorem SP.set {W0 : World} {p g : Nat} {u0 u2 : Value} {w1 : World} (h : SP W0 p u0 u2 w1) (hp : p < W0.heap.size) (hg : W0.heap.size ≤ g) (i : Nat) (v : Value) : SP W0 p u0 u2 (w1.setCell ⟨g, i, none⟩ v) := by
  obtain ⟨h1, h2, h3⟩ := h
  have hne : p ≠ g := by omega
  exact ⟨h1.setCell hg v, (World.cell?_of_block (a := ⟨p, 0, none⟩) (Below.heap_setCell w1 ⟨g, i, none⟩ v p hne)).trans h2, (World.cell?_of_block (a := ⟨p, 2, none⟩) (Below.heap_setCell w1 ⟨g, i, none⟩ v p hne)).trans h3⟩

set_option maxRecDepth 100000 in
set_option maxHeartbeats 2000000 in
theorem config_any (a b c : Option Addr) (ca cb cc n k : Nat) (zs : List Nat) (A : Nat → Nat → Int) (S : Nat → Int) (w : World) (hr : Row w a zs) (hl : 8 * zs.length ≤ 140737488355328) (hA : RowA w b n A) (hn : 40 * n ≤ 140737488355328) (hS : RowZ w c k S) (hnil : c = none → k = 0 ∧ cc = 0) (hk : 8 * k ≤ 140737488355328) :
    Calls Try.prog 15 #[.agg #[.slice a zs.length ca, .slice b n cb, .slice c k cc]] w fun e w' => (∃ a2 b2 c2 ca2 cb2 cc2, e = .returned (.agg #[.slice a2 zs.length ca2, .slice b2 n cb2, .slice c2 k cc2]) ∧ Row w' a2 zs ∧ RowA w' b2 n A ∧ RowZ w' c2 k S) ∧ Below w.heap.size w w' := by
  obtain ⟨W0, hW0⟩ : ∃ W0, W0 = (w.alloc (.cells #[.slice a zs.length ca, .slice b n cb, .slice c k cc] 44)).alloc (.cells #[.slice none 0 0, .slice none 0 0, .slice none 0 0] 47) := ⟨_, rfl⟩
  have hb0 : Below w.heap.size w W0 := by rw [hW0]; exact ((Below.refl _ _).alloc (Nat.le_refl _) _).alloc (by simp) _
  have hs0 : W0.heap.size = w.heap.size + 2 := by rw [hW0]; simp
  have hp0 : ∀ j v, #[Value.slice a zs.length ca, .slice b n cb, .slice c k cc][j]? = some v → W0.cell? ⟨w.heap.size, j, none⟩ = some v := fun j v h => by
    rw [hW0, ((Below.refl _ _).alloc (Nat.le_refl _) _).cell (p := ⟨w.heap.size, j, none⟩) (by simp), cell_of_row _ _ _ _ _ _ (heap_alloc_new w _)]; exact h
  have hf0 := hp0 0 _ rfl
  have hf1 := hp0 1 _ rfl
  have hf2 := hp0 2 _ rfl
  have hR0 : W0.heap[w.heap.size + 1]? = some (.cells #[.slice none 0 0, .slice none 0 0, .slice none 0 0] 47 (0, 0)) := by
    rw [hW0]; have := heap_alloc_new (w.alloc (.cells #[.slice a zs.length ca, .slice b n cb, .slice c k cc] 44)) (.cells #[.slice none 0 0, .slice none 0 0, .slice none 0 0] 47); simpa using this
  clear hp0
  go_enter Try.func15, Try.ntmps15
  go_wp2_with fail
  rw [← hW0]
  clear hW0
  go_cut [3] (fun s wc => ∃ g a2 c2 ca2 cc2, s = .pointer (some ⟨g, 0, none⟩) ∧ w.heap.size + 2 ≤ g ∧ wc.heap[g]? = some (.cells #[.slice a2 zs.length ca2, .slice none 0 0, .slice c2 k cc2] 47 (0, 0)) ∧ Row wc a2 zs ∧ RowZ wc c2 k S ∧ Below (w.heap.size + 2) W0 wc)
  case first =>
    refine wp_region_held_drew (S := SP W0 w.heap.size (.slice a zs.length ca) (.slice c k cc)) (by kernel_rfl) ?_ (fun hHeld => ?_)
    · exact ⟨(Below.refl _ _).drew, hf0, hf2⟩
    refine take_on (i := 0) (v := ?_) rfl rfl (by kernel_rfl) (by kernel_rfl) (by kernel_rfl) (fun _ _ _ h => h) rfl ?_ hHeld ?_
    rotate_left
    · (intro wq hSq; obtain ⟨_, hq1, hq2⟩ := hSq; go_simp <;> first | with_reducible rfl | rfl)
    simp only [Act.put, List.setIfInBounds_toArray, List.set_cons_zero, List.set_cons_succ]
    refine take_on (i := 1) (v := ?_) rfl rfl (by kernel_rfl) (by kernel_rfl) (by kernel_rfl) (fun _ _ _ h => h) rfl ?_ hHeld ?_
    rotate_left
    · (intro wq hSq; obtain ⟨_, hq1, hq2⟩ := hSq; go_simp <;> first | with_reducible rfl | rfl)
    simp only [Act.put, List.setIfInBounds_toArray, List.set_cons_zero, List.set_cons_succ]
    refine take_on (i := 3) (v := ?_) rfl rfl (by kernel_rfl) (by kernel_rfl) (by kernel_rfl) (fun _ _ _ h => h) rfl ?_ hHeld ?_
    rotate_left
    · (intro wq hSq; obtain ⟨_, hq1, hq2⟩ := hSq; go_simp <;> first | with_reducible rfl | rfl)
    simp only [Act.put, List.setIfInBounds_toArray, List.set_cons_zero, List.set_cons_succ]
    refine take_on (i := 4) (v := ?_) rfl rfl (by kernel_rfl) (by kernel_rfl) (by kernel_rfl) (fun _ _ _ h => h) rfl ?_ hHeld ?_
    rotate_left
    · (intro wq hSq; obtain ⟨_, hq1, hq2⟩ := hSq; go_simp <;> first | with_reducible rfl | rfl)
    simp only [Act.put, List.setIfInBounds_toArray, List.set_cons_zero, List.set_cons_succ]
    refine take_two (i := 2) (j := 7) rfl rfl (by kernel_rfl) (fun K hK => ?_) (fun K hK => ?_)
    · go_simp
      refine (plain_any a ca zs _ ((hr.below hb0).below hHeld.1) hl).mono ?_; rintro e w1 ⟨⟨g1, rfl, hr1⟩, hb1⟩
      try go_wp2_with fail
      refine hK.out _ _ ?_ (fun hHeld => ?_)
      · exact hHeld.next (by omega) hb1
      clear hK K
      try simp only [Act.put, List.setIfInBounds_toArray, List.set_cons_zero, List.set_cons_succ]
      refine take_two (i := 5) (j := 7) rfl rfl (by kernel_rfl) (fun K hK => ?_) (fun K hK => ?_)
      · obtain ⟨c2, cc2, w2, hrun, hz2, hb2⟩ := sess_run c cc k S _ ((hS.below hb0).below hHeld.1) hnil hk; refine step_append_run rfl _ _ _ rfl _ _ _ _ rfl rfl hrun ?_
        refine hK.out _ _ ?_ (fun hHeld => ?_)
        · exact hHeld.next (by omega) hb2
        clear hK K
        try simp only [Act.put, List.setIfInBounds_toArray, List.set_cons_zero, List.set_cons_succ]
        refine take_on (i := 6) (v := ?_) rfl rfl (by kernel_rfl) (by kernel_rfl) (by kernel_rfl) (fun _ _ _ h => h) rfl ?_ hHeld ?_
        rotate_left
        · (intro wq hSq; obtain ⟨_, hq1, hq2⟩ := hSq; go_simp <;> first | with_reducible rfl | rfl)
        simp only [Act.put, List.setIfInBounds_toArray, List.set_cons_zero, List.set_cons_succ]
        refine take_one (i := 7) rfl (by kernel_rfl) (fun K hK => ?_)
        have hH2 := hHeld; go_simp
        refine hK.out _ _ ?_ (fun hHeld => ?_)
        · exact hHeld.next (by omega) ((Below.refl _ _).alloc (Nat.le_refl _) _)
        clear hK K
        try simp only [Act.put, List.setIfInBounds_toArray, List.set_cons_zero, List.set_cons_succ]
        refine take_one (i := 8) rfl (by kernel_rfl) (fun K hK => ?_)
        go_simp
        refine hK.out _ _ ?_ (fun hHeld => ?_)
        · exact hH2.next (by omega) ((Below.refl _ _).alloc (Nat.le_refl _) _)
        clear hK K
        try simp only [Act.put, List.setIfInBounds_toArray, List.set_cons_zero, List.set_cons_succ]
        refine wpAnyH_done (by kernel_rfl) ?_ _
        try go_wp2_with fail
        go_meet
        case rel => exact ⟨_, some ⟨g1, 0, none⟩, c2, zs.length, cc2, rfl, by have h1 := hb1.size; have h2 := hb2.size; simp at h1; omega, heap_alloc_new w2 _, (hr1.below hb2).below ((Below.refl _ _).alloc (Nat.le_refl _) _), hz2.below ((Below.refl _ _).alloc (Nat.le_refl _) _), hs0 ▸ hHeld.1⟩
      · go_simp
        refine hK.out _ _ ?_ (fun hHeld => ?_)
        · exact hHeld.next (by omega) ((Below.refl _ _).alloc (Nat.le_refl _) _)
        clear hK K
        try simp only [Act.put, List.setIfInBounds_toArray, List.set_cons_zero, List.set_cons_succ]
        refine take_one (i := 5) rfl (by kernel_rfl) (fun K hK => ?_)
        obtain ⟨c2, cc2, w2, hrun, hz2, hb2⟩ := sess_run c cc k S _ ((hS.below hb0).below hHeld.1) hnil hk; refine step_append_run rfl _ _ _ rfl _ _ _ _ rfl rfl hrun ?_
        refine hK.out _ _ ?_ (fun hHeld => ?_)
        · exact hHeld.next (by omega) hb2
        clear hK K
        try simp only [Act.put, List.setIfInBounds_toArray, List.set_cons_zero, List.set_cons_succ]
        refine take_on (i := 6) (v := ?_) rfl rfl (by kernel_rfl) (by kernel_rfl) (by kernel_rfl) (fun _ _ _ h => h) rfl ?_ hHeld ?_
        rotate_left
        · (intro wq hSq; obtain ⟨_, hq1, hq2⟩ := hSq; go_simp <;> first | with_reducible rfl | rfl)
        simp only [Act.put, List.setIfInBounds_toArray, List.set_cons_zero, List.set_cons_succ]
        refine take_one (i := 8) rfl (by kernel_rfl) (fun K hK => ?_)
        have hge : w.heap.size + 2 ≤ w1.heap.size := by have := hb1.size; simp at this; omega
        have hgb : w2.heap[w1.heap.size]? = some (.cells #[.slice none 0 0, .slice none 0 0, .slice none 0 0] 47 (0, 0)) := (hb2.block _ (by simp)).trans (heap_alloc_new _ _); have h1b := heap_setCell_same w2 (w1.heap.size) 0 _ _ (.slice (some ⟨g1, 0, none⟩) zs.length zs.length) hgb; have h2b := heap_setCell_same (w2.setCell ⟨w1.heap.size, 0, none⟩ (.slice (some ⟨g1, 0, none⟩) zs.length zs.length)) (w1.heap.size) 1 _ _ (.slice none 0 0) h1b; have h3b := heap_setCell_same ((w2.setCell ⟨w1.heap.size, 0, none⟩ (.slice (some ⟨g1, 0, none⟩) zs.length zs.length)).setCell ⟨w1.heap.size, 1, none⟩ (.slice none 0 0)) (w1.heap.size) 2 _ _ (.slice c2 k cc2) h2b; have q0 : w2.cell? ⟨w1.heap.size, 0, none⟩ = some (.slice none 0 0) := by rw [cell_of_row _ _ _ _ _ _ hgb]; rfl
        have z0 := frozen_of_row w2 (w1.heap.size) 0 _ _ hgb; have q1 : (w2.setCell ⟨w1.heap.size, 0, none⟩ (.slice (some ⟨g1, 0, none⟩) zs.length zs.length)).cell? ⟨w1.heap.size, 1, none⟩ = some (.slice none 0 0) := by rw [cell_of_row _ _ _ _ _ _ h1b]; rfl
        have z1 := frozen_of_row _ (w1.heap.size) 1 _ _ h1b; have q2 : ((w2.setCell ⟨w1.heap.size, 0, none⟩ (.slice (some ⟨g1, 0, none⟩) zs.length zs.length)).setCell ⟨w1.heap.size, 1, none⟩ (.slice none 0 0)).cell? ⟨w1.heap.size, 2, none⟩ = some (.slice none 0 0) := by rw [cell_of_row _ _ _ _ _ _ h2b]; rfl
        have z2 := frozen_of_row _ (w1.heap.size) 2 _ _ h2b; go_simp
        refine hK.out _ _ ?_ (fun hHeld => ?_)
        · exact ((hHeld.set (by omega) (hs0 ▸ hge) _ _).set (by omega) (hs0 ▸ hge) _ _).set (by omega) (hs0 ▸ hge) _ _
        clear hK K
        try simp only [Act.put, List.setIfInBounds_toArray, List.set_cons_zero, List.set_cons_succ]
        refine wpAnyH_done (by kernel_rfl) ?_ _
        try go_wp2_with fail
        go_meet
        case rel => exact ⟨w1.heap.size, some ⟨g1, 0, none⟩, c2, zs.length, cc2, rfl, hge, h3b, ((hr1.below ((Below.refl _ _).alloc (Nat.le_refl _) _)).below hb2).far hgb (noInt3 _ _ _ _ _ _ _ _ _) (grownBy_set (grownBy_set (grownBy_set (grownBy_refl _ _) _ _) _ _) _ _), hz2.far hgb (noInt3 _ _ _ _ _ _ _ _ _) (grownBy_set (grownBy_set (grownBy_set (grownBy_refl _ _) _ _) _ _) _ _), hs0 ▸ hHeld.1⟩
    · go_simp
      refine hK.out _ _ ?_ (fun hHeld => ?_)
      · exact hHeld.next (by omega) ((Below.refl _ _).alloc (Nat.le_refl _) _)
      clear hK K
      try simp only [Act.put, List.setIfInBounds_toArray, List.set_cons_zero, List.set_cons_succ]
      refine take_one (i := 2) rfl (by kernel_rfl) (fun K hK => ?_)
      go_simp
      refine (plain_any a ca zs _ ((hr.below hb0).below hHeld.1) hl).mono ?_; rintro e w1 ⟨⟨g1, rfl, hr1⟩, hb1⟩
      try go_wp2_with fail
      refine hK.out _ _ ?_ (fun hHeld => ?_)
      · exact hHeld.next (by omega) hb1
      clear hK K
      try simp only [Act.put, List.setIfInBounds_toArray, List.set_cons_zero, List.set_cons_succ]
      refine take_one (i := 5) rfl (by kernel_rfl) (fun K hK => ?_)
      obtain ⟨c2, cc2, w2, hrun, hz2, hb2⟩ := sess_run c cc k S _ ((hS.below hb0).below hHeld.1) hnil hk; refine step_append_run rfl _ _ _ rfl _ _ _ _ rfl rfl hrun ?_
      refine hK.out _ _ ?_ (fun hHeld => ?_)
      · exact hHeld.next (by omega) hb2
      clear hK K
      try simp only [Act.put, List.setIfInBounds_toArray, List.set_cons_zero, List.set_cons_succ]
      refine take_on (i := 6) (v := ?_) rfl rfl (by kernel_rfl) (by kernel_rfl) (by kernel_rfl) (fun _ _ _ h => h) rfl ?_ hHeld ?_
      rotate_left
      · (intro wq hSq; obtain ⟨_, hq1, hq2⟩ := hSq; go_simp <;> first | with_reducible rfl | rfl)
      simp only [Act.put, List.setIfInBounds_toArray, List.set_cons_zero, List.set_cons_succ]
      refine take_one (i := 8) rfl (by kernel_rfl) (fun K hK => ?_)
      have hge : w.heap.size + 2 ≤ w.heap.size + 2 := Nat.le_refl _
      have hgb : w2.heap[w.heap.size + 2]? = some (.cells #[.slice none 0 0, .slice none 0 0, .slice none 0 0] 47 (0, 0)) := (hb2.block _ (by have := hb1.size; simp at this; omega)).trans ((hb1.block _ (by simp; omega)).trans (by have e := heap_alloc_new W0.drew (.cells #[.slice none 0 0, .slice none 0 0, .slice none 0 0] 47); rw [show W0.drew.heap.size = w.heap.size + 2 from hs0] at e; exact e)); have h1b := heap_setCell_same w2 (w.heap.size + 2) 0 _ _ (.slice (some ⟨g1, 0, none⟩) zs.length zs.length) hgb; have h2b := heap_setCell_same (w2.setCell ⟨w.heap.size + 2, 0, none⟩ (.slice (some ⟨g1, 0, none⟩) zs.length zs.length)) (w.heap.size + 2) 1 _ _ (.slice none 0 0) h1b; have h3b := heap_setCell_same ((w2.setCell ⟨w.heap.size + 2, 0, none⟩ (.slice (some ⟨g1, 0, none⟩) zs.length zs.length)).setCell ⟨w.heap.size + 2, 1, none⟩ (.slice none 0 0)) (w.heap.size + 2) 2 _ _ (.slice c2 k cc2) h2b; have q0 : w2.cell? ⟨w.heap.size + 2, 0, none⟩ = some (.slice none 0 0) := by rw [cell_of_row _ _ _ _ _ _ hgb]; rfl
      have z0 := frozen_of_row w2 (w.heap.size + 2) 0 _ _ hgb; have q1 : (w2.setCell ⟨w.heap.size + 2, 0, none⟩ (.slice (some ⟨g1, 0, none⟩) zs.length zs.length)).cell? ⟨w.heap.size + 2, 1, none⟩ = some (.slice none 0 0) := by rw [cell_of_row _ _ _ _ _ _ h1b]; rfl
      have z1 := frozen_of_row _ (w.heap.size + 2) 1 _ _ h1b; have q2 : ((w2.setCell ⟨w.heap.size + 2, 0, none⟩ (.slice (some ⟨g1, 0, none⟩) zs.length zs.length)).setCell ⟨w.heap.size + 2, 1, none⟩ (.slice none 0 0)).cell? ⟨w.heap.size + 2, 2, none⟩ = some (.slice none 0 0) := by rw [cell_of_row _ _ _ _ _ _ h2b]; rfl
      have z2 := frozen_of_row _ (w.heap.size + 2) 2 _ _ h2b; go_simp
      refine hK.out _ _ ?_ (fun hHeld => ?_)
      · exact ((hHeld.set (by omega) (hs0 ▸ hge) _ _).set (by omega) (hs0 ▸ hge) _ _).set (by omega) (hs0 ▸ hge) _ _
      clear hK K
      try simp only [Act.put, List.setIfInBounds_toArray, List.set_cons_zero, List.set_cons_succ]
      refine wpAnyH_done (by kernel_rfl) ?_ _
      try go_wp2_with fail
      go_meet
      case rel => exact ⟨w.heap.size + 2, some ⟨g1, 0, none⟩, c2, zs.length, cc2, rfl, hge, h3b, (hr1.below hb2).far hgb (noInt3 _ _ _ _ _ _ _ _ _) (grownBy_set (grownBy_set (grownBy_set (grownBy_refl _ _) _ _) _ _) _ _), hz2.far hgb (noInt3 _ _ _ _ _ _ _ _ _) (grownBy_set (grownBy_set (grownBy_set (grownBy_refl _ _) _ _) _ _) _ _), hs0 ▸ hHeld.1⟩
  case rest =>
    obtain ⟨g, a2, c2, ca2, cc2, rfl, hge, hgb, hra, hrz, hbc⟩ := hcut
    clear hr hS
    obtain ⟨i0, hi, hz0, hz1, hz2⟩ := info_parts infoAcc
    have hcs : w.heap.size + 2 ≤ wc.heap.size := by have := hbc.size; omega
    have hgs : g < wc.heap.size := (Array.getElem?_eq_some_iff.1 hgb).1
    have hP : wc.cell? ⟨w.heap.size, 1, none⟩ = some (.slice b n cb) := by rw [hbc.cell (p := ⟨w.heap.size, 1, none⟩) (by simp)]; exact hf1
    have hRc : wc.heap[w.heap.size + 1]? = some (.cells #[.slice none 0 0, .slice none 0 0, .slice none 0 0] 47 (0, 0)) := (hbc.block _ (by omega)).trans hR0
    clear hf0 hf1 hf2 hR0
    have hn63 : (n : Int) ≤ 9223372036854775807 := by omega
    go_wp2_with fail
    go_loopw [4] (fun i wr => ∃ (j : Nat) (v : Value), j ≤ n ∧ i = .int .i64 j ∧ wr.heap[g]? = some (.cells #[.slice a2 zs.length ca2, v, .slice c2 k cc2] 47 (0, 0)) ∧ wr.ownsRow wc.heap.size 78 5 v j (accsL A j) ∧ wc.grownBy wr (some g)) (fun i _ => n - (intOf i).toNat)
    case atStart => exact ⟨0, _, by omega, rfl, hgb, World.ownsRow_nil _ _ _ _, grownBy_refl _ _⟩
    case round =>
      obtain ⟨j, v, hj, rfl, hgr, hown, hgw⟩ := hrel
      have hq1 : wr.cell? ⟨w.heap.size, 1, none⟩ = some (.slice b n cb) := (World.cell?_of_block (a := ⟨w.heap.size, 1, none⟩) (hgw.block w.heap.size (by omega) (by simp; omega))).trans hP
      by_cases hlt : j < n
      · obtain ⟨b1, o1, rfl, hbl1, hc1⟩ := hA.here hlt
        have hblk : wr.heap[b1]? = w.heap[b1]? := (hgw.block b1 (by omega) (by simp; omega)).trans ((hbc.block b1 (by omega)).trans (hb0.block b1 hbl1))
        have hat : ∀ o, wr.cell? ⟨b1, o, none⟩ = w.cell? ⟨b1, o, none⟩ := fun o => World.cell?_of_block (a := ⟨b1, o, none⟩) hblk
        have e0 : wr.cell? ⟨b1, o1 + j * 5, none⟩ = some (.int .i64 (A j 0)) := (hat _).trans (hc1 j hlt 0 (by omega))
        have e1 := (hat _).trans (hc1 j hlt 1 (by omega))
        have e2 := (hat _).trans (hc1 j hlt 2 (by omega))
        have e3 := (hat _).trans (hc1 j hlt 3 (by omega))
        have e4 := (hat _).trans (hc1 j hlt 4 (by omega))
        clear hc1 hat hblk
        have hgl : g < wr.heap.size := (Array.getElem?_eq_some_iff.1 hgr).1
        have hws := hgw.size
        obtain ⟨W1, hW1⟩ : ∃ W1, W1 = wr.alloc (.cells #[.int .i64 (A j 0), .int .i64 (A j 1), .int .i64 (A j 2), .int .i64 (A j 3), .int .i64 (A j 4)] 50) := ⟨_, rfl⟩
        have s1 : W1.heap.size = wr.heap.size + 1 := by rw [hW1]; simp
        obtain ⟨W2, hW2⟩ : ∃ W2, W2 = W1.alloc (.cells #[.int .i64 (A j 0), .int .i64 (A j 1), .int .i64 (A j 2), .int .i64 (A j 3), .int .i64 (A j 4)] 78) := ⟨_, rfl⟩
        have hg1 : W1.heap[g]? = some (.cells #[.slice a2 zs.length ca2, v, .slice c2 k cc2] 47 (0, 0)) := by rw [hW1, Below.heap_alloc _ _ _ hgl]; exact hgr
        have hg2 : W2.heap[g]? = some (.cells #[.slice a2 zs.length ca2, v, .slice c2 k cc2] 47 (0, 0)) := by rw [hW2, Below.heap_alloc _ _ _ (by omega)]; exact hg1
        have hv1 : W1.cell? ⟨g, 1, none⟩ = some v := by rw [cell_of_row _ _ _ _ _ _ hg1]; rfl
        have hown2 : W2.ownsRow wc.heap.size 78 5 v j (accsL A j) := by rw [hW2, hW1]; exact (hown.alloc _).alloc _
        have hnews : ∀ jj u, (accL (A j))[jj]? = some u → W2.cell? ((⟨W1.heap.size, 0, none⟩ : Addr).add jj) = some u := by rw [hW2]; exact cells_five_new W1 (A j) _
        have hone : ∀ u ∈ accL (A j), u.oneCell' = true := by simp [accL, Value.oneCell']
        have hvo : ∀ b, v.ownBlock = some b → wc.heap.size ≤ b := fun b e => own_geM hown e
        have s2 : W2.heap.size = wr.heap.size + 2 := by rw [hW2]; simp [s1]
        rw [s1] at hnews
        subst hW2
        subst hW1
        have hm63 : j + 1 ≤ maxLen := by unfold maxLen; omega
        have HG2 : Hid (((wr.alloc (.cells #[.int .i64 (A j 0), .int .i64 (A j 1), .int .i64 (A j 2), .int .i64 (A j 3), .int .i64 (A j 4)] 50)).alloc (.cells #[.int .i64 (A j 0), .int .i64 (A j 1), .int .i64 (A j 2), .int .i64 (A j 3), .int .i64 (A j 4)] 78)).heap[g]? = some (.cells #[.slice a2 zs.length ca2, v, .slice c2 k cc2] 47 (0, 0))) := hg2
        have HO : Hid (wr.ownsRow wc.heap.size 78 5 v j (accsL A j)) := hown
        clear hg1 hg2 hgr hown
        have key : ∀ (w4 : World), ((wr.alloc (.cells #[.int .i64 (A j 0), .int .i64 (A j 1), .int .i64 (A j 2), .int .i64 (A j 3), .int .i64 (A j 4)] 50)).alloc (.cells #[.int .i64 (A j 0), .int .i64 (A j 1), .int .i64 (A j 2), .int .i64 (A j 3), .int .i64 (A j 4)] 78)).grownBy w4 v.ownBlock → w4.heap[g]? = some (.cells #[.slice a2 zs.length ca2, v, .slice c2 k cc2] 47 (0, 0)) := fun w4 h => by
          have e := HG2.out
          rw [← h.block g (by omega) (fun e => by have := hvo g e.symm; omega)] at e
          exact e
        go_wp2_with (first | (at_builtin; refine wpList_append_own_at _ rfl _ _ 45 rfl wc.heap.size 78 i0 (.agg #[.int .i64 0, .int .i64 0, .int .i64 0, .int .i64 0, .int .i64 0]) 5 40 Try.underlying45 hi hz0 hz1 hz2 rfl (by omega) _ _ _ rfl hown2 ⟨wr.heap.size + 1, 0, none⟩ 1 1 (accL (A j)) rfl rfl hnews hone hm63 (by omega) (by omega) ?_; intro v4 w4 hown4 hgrow4 hnil4 hat4; obtain ⟨b4, c4, hv4e⟩ := slice_of_owns hown4; subst hv4e; clear hnil4; have hg4 := key w4 hgrow4; have hv4 : w4.cell? ⟨g, 1, none⟩ = some v := (by rw [cell_of_row _ _ _ _ _ _ hg4]; rfl); have hz4 := frozen_of_row w4 g 1 _ _ hg4))
        have hg5 := heap_setCell_same w4 g 1 _ _ (.slice b4 (j + 1) c4) hg4
        have hs4 := hgrow4.size
        go_roundw
        case rel =>
          refine ⟨j + 1, .slice b4 (j + 1) c4, by omega, by go_num, hg5, ?_, ?_⟩
          · rw [accsL_succ]
            refine ownsRow_block hown4 (fun b e => Below.heap_setCell _ _ _ _ ?_)
            rintro rfl
            rcases hat4 with h | h
            · rw [h] at e; have := hvo _ e; omega
            · rw [h] at e; simp at e; omega
          · refine ⟨hgrow4.os.trans hgw.os, hgrow4.tape.trans hgw.tape, hgrow4.output.trans hgw.output, by simp; omega, fun q hq hne => ?_⟩
            rw [Below.heap_setCell _ _ _ _ (fun e => hne (by rw [e])), hgrow4.block q (by omega) (fun e => by have := hvo q e.symm; omega), Below.heap_alloc _ _ _ (by simp; omega), Below.heap_alloc _ _ _ (by omega)]
            exact hgw.block q hq hne
        case measure => simp [intOf]; omega
      · have hjn : j = n := by omega
        subst hjn
        have hR : wr.heap[w.heap.size + 1]? = some (.cells #[.slice none 0 0, .slice none 0 0, .slice none 0 0] 47 (0, 0)) := (hgw.block _ (by omega) (by simp; omega)).trans hRc
        have hRs : w.heap.size + 1 < wr.heap.size := (Array.getElem?_eq_some_iff.1 hR).1
        have c0 : wr.cell? ⟨g, 0, none⟩ = some (.slice a2 zs.length ca2) := by rw [cell_of_row _ _ _ _ _ _ hgr]; rfl
        have c1 : wr.cell? ⟨g, 1, none⟩ = some v := by rw [cell_of_row _ _ _ _ _ _ hgr]; rfl
        have c2' : wr.cell? ⟨g, 2, none⟩ = some (.slice c2 k cc2) := by rw [cell_of_row _ _ _ _ _ _ hgr]; rfl
        have h1b := heap_setCell_same wr (w.heap.size + 1) 0 _ _ (.slice a2 zs.length ca2) hR
        have h2b := heap_setCell_same (wr.setCell ⟨w.heap.size + 1, 0, none⟩ (.slice a2 zs.length ca2)) (w.heap.size + 1) 1 _ _ v h1b
        have h3b := heap_setCell_same ((wr.setCell ⟨w.heap.size + 1, 0, none⟩ (.slice a2 zs.length ca2)).setCell ⟨w.heap.size + 1, 1, none⟩ v) (w.heap.size + 1) 2 _ _ (.slice c2 k cc2) h2b
        have q0 : wr.cell? ⟨w.heap.size + 1, 0, none⟩ = some (.slice none 0 0) := by rw [cell_of_row _ _ _ _ _ _ hR]; rfl
        have z0 := frozen_of_row wr (w.heap.size + 1) 0 _ _ hR
        have q1 : (wr.setCell ⟨w.heap.size + 1, 0, none⟩ (.slice a2 zs.length ca2)).cell? ⟨w.heap.size + 1, 1, none⟩ = some (.slice none 0 0) := by rw [cell_of_row _ _ _ _ _ _ h1b]; rfl
        have z1 := frozen_of_row _ (w.heap.size + 1) 1 _ _ h1b
        have q2 : ((wr.setCell ⟨w.heap.size + 1, 0, none⟩ (.slice a2 zs.length ca2)).setCell ⟨w.heap.size + 1, 1, none⟩ v).cell? ⟨w.heap.size + 1, 2, none⟩ = some (.slice none 0 0) := by rw [cell_of_row _ _ _ _ _ _ h2b]; rfl
        have z2 := frozen_of_row _ (w.heap.size + 1) 2 _ _ h2b
        obtain ⟨b2, cb2, rfl, hrA⟩ := rowA_of_owns hown
        have hne : g ≠ w.heap.size + 1 := by omega
        have hgrw : wr.grownBy (((wr.setCell ⟨w.heap.size + 1, 0, none⟩ (.slice a2 zs.length ca2)).setCell ⟨w.heap.size + 1, 1, none⟩ (.slice b2 j cb2)).setCell ⟨w.heap.size + 1, 2, none⟩ (.slice c2 k cc2)) (some (w.heap.size + 1)) := grownBy_set (grownBy_set (grownBy_set (grownBy_refl _ _) _ _) _ _) _ _
        have hfa := ((hra.far hgb (noInt3 _ _ _ _ _ _ _ _ _) hgw).far hR (noInt3 _ _ _ _ _ _ _ _ _) hgrw)
        have hfz := ((hrz.far hgb (noInt3 _ _ _ _ _ _ _ _ _) hgw).far hR (noInt3 _ _ _ _ _ _ _ _ _) hgrw)
        have hfA := hrA.far hR (noInt3 _ _ _ _ _ _ _ _ _) hgrw
        have r0 : (((wr.setCell ⟨w.heap.size + 1, 0, none⟩ (.slice a2 zs.length ca2)).setCell ⟨w.heap.size + 1, 1, none⟩ (.slice b2 j cb2)).setCell ⟨w.heap.size + 1, 2, none⟩ (.slice c2 k cc2)).cell? ⟨w.heap.size + 1, 0, none⟩ = some (.slice a2 zs.length ca2) := by rw [cell_of_row _ _ _ _ _ _ h3b]; rfl
        have r1 : (((wr.setCell ⟨w.heap.size + 1, 0, none⟩ (.slice a2 zs.length ca2)).setCell ⟨w.heap.size + 1, 1, none⟩ (.slice b2 j cb2)).setCell ⟨w.heap.size + 1, 2, none⟩ (.slice c2 k cc2)).cell? ⟨w.heap.size + 1, 1, none⟩ = some (.slice b2 j cb2) := by rw [cell_of_row _ _ _ _ _ _ h3b]; rfl
        have r2 : (((wr.setCell ⟨w.heap.size + 1, 0, none⟩ (.slice a2 zs.length ca2)).setCell ⟨w.heap.size + 1, 1, none⟩ (.slice b2 j cb2)).setCell ⟨w.heap.size + 1, 2, none⟩ (.slice c2 k cc2)).cell? ⟨w.heap.size + 1, 2, none⟩ = some (.slice c2 k cc2) := by rw [cell_of_row _ _ _ _ _ _ h3b]; rfl
        have hbel : Below w.heap.size w (((wr.setCell ⟨w.heap.size + 1, 0, none⟩ (.slice a2 zs.length ca2)).setCell ⟨w.heap.size + 1, 1, none⟩ (.slice b2 j cb2)).setCell ⟨w.heap.size + 1, 2, none⟩ (.slice c2 k cc2)) := by
          have hb3 := hb0.trans (hbc.mono (by omega))
          have hb4 := hb3.grown hgw (by omega) (fun q e => by cases e; omega)
          exact hb4.grown hgrw (by have := hgw.size; omega) (fun q e => by cases e; omega)
        clear h1b h2b h3b hgrw hra hrz hrA hown hgr hgb
        go_wp2
        refine bodyPost_ret (v := .agg #[.slice a2 zs.length ca2, .slice b2 j cb2, .slice c2 k cc2]) (by simp [results, Try.results15, go_sem, r0, r1, r2]) rfl ?_
        exact ⟨⟨a2, b2, c2, ca2, cb2, cc2, rfl, hfa, hfA, hfz⟩, hbel⟩

end Go.Proofs.Ytoindigckfajlab
