/- What a disk answers, as mathematics; how great a disk is; rows that stay. -/
import Derived.Test.YtkacfpmninmjkaaGreatNd8
namespace Go.Proofs.YtkacfpmninmjkaaGreat
open Go.RowKit

/-- It lies in blocks from base on. -/
def lowA (base : Nat) (a : Option Addr) : Prop := ∀ ad, a = some ad → base ≤ ad.block
theorem RowB.keep {w w' : World} {a : Option Addr} {zs : List Nat} (h : RowB w a zs) (hs : w.heap.size ≤ w'.heap.size) (hk : ∀ ad : Addr, a = some ad → ad.block < w.heap.size → w'.heap[ad.block]? = w.heap[ad.block]?) : RowB w' a zs := by
  rcases h with h | ⟨b, o, e, hlt, hc⟩
  · exact .inl h
  · have hb : w'.heap[b]? = w.heap[b]? := hk ⟨b, o, none⟩ e hlt
    exact .inr ⟨b, o, e, Nat.lt_of_lt_of_le hlt hs, fun i hi => (World.cell?_of_block (w := w) (a := ⟨b, o + i, none⟩) hb).trans (hc i hi)⟩

set_option maxRecDepth 100000 in
set_option maxHeartbeats 400000 in
theorem equal_same (a b : Option Addr) (n ca cb : Nat) (zs : List Nat) (w : World) (ha : RowB w a zs) (hb : RowB w b zs) (hz : zs.length = n) (hl : n ≤ 211106232532800) :
    Calls Tryz.prog 48 #[.slice a n ca, .slice b n cb] w fun e w' => e = .returned (.bool true) ∧ Below w.heap.size w w' := by
  go_enter Tryz.func48, Tryz.ntmps48
  go_wp2_with fail
  go_loopw [13, 5] (fun i _ wr => ∃ k : Nat, k ≤ n ∧ i = .int .i64 (k : Int) ∧ Below w.heap.size w wr) (fun i _ _ => n - (intOf i).toNat)
  case atStart => exact ⟨0, by omega, rfl, Below.refl _ _⟩
  case round =>
    obtain ⟨k, hk, rfl, hbw⟩ := hrel
    by_cases hlt : k < n
    · obtain ⟨b1, o1, rfl, g1, c1⟩ := ha.here (i := k) (by omega)
      obtain ⟨b2, o2, rfl, g2, c2⟩ := hb.here (i := k) (by omega)
      have d1 := (hbw.cell (p := ⟨b1, o1 + k, none⟩) g1).trans (c1 k (by omega))
      have d2 := (hbw.cell (p := ⟨b2, o2 + k, none⟩) g2).trans (c2 k (by omega))
      have h1 : b1 < wr.heap.size := Nat.lt_of_lt_of_le g1 hbw.size
      have h2 : b2 < wr.heap.size := Nat.lt_of_lt_of_le g2 hbw.size
      have hs := hbw.size
      clear c1 c2 ha hb hz
      go_wp2_with fail
      refine wp_calm ?_
      refine wp_region_held_drew (S := (fun w' => Below wr.heap.size wr w')) (by kernel_rfl) ?_ (fun hHeld => ?_)
      · exact (Below.refl _ _).drew
      refine take_on (i := 0) (v := ?_) rfl rfl (by kernel_rfl) (by kernel_rfl) (by kernel_rfl) (fun _ _ _ h => h) rfl ?_ hHeld ?_
      rotate_left
      · (intro wq hSq; have q1 := (hSq.cell (p := ⟨b1, o1 + k, none⟩) h1).trans d1; have q2 := (hSq.cell (p := ⟨b2, o2 + k, none⟩) h2).trans d2; go_simp <;> first | with_reducible rfl | rfl)
      simp only [Act.put, List.setIfInBounds_toArray, List.set_cons_zero, List.set_cons_succ]
      refine take_on (i := 1) (v := ?_) rfl rfl (by kernel_rfl) (by kernel_rfl) (by kernel_rfl) (fun _ _ _ h => h) rfl ?_ hHeld ?_
      rotate_left
      · (intro wq hSq; have q1 := (hSq.cell (p := ⟨b1, o1 + k, none⟩) h1).trans d1; have q2 := (hSq.cell (p := ⟨b2, o2 + k, none⟩) h2).trans d2; go_simp <;> first | with_reducible rfl | rfl)
      simp only [Act.put, List.setIfInBounds_toArray, List.set_cons_zero, List.set_cons_succ]
      refine take_on (i := 2) (v := ?_) rfl rfl (by kernel_rfl) (by kernel_rfl) (by kernel_rfl) (fun _ _ _ h => h) rfl ?_ hHeld ?_
      rotate_left
      · (intro wq hSq; have q1 := (hSq.cell (p := ⟨b1, o1 + k, none⟩) h1).trans d1; have q2 := (hSq.cell (p := ⟨b2, o2 + k, none⟩) h2).trans d2; go_simp <;> first | with_reducible rfl | rfl)
      simp only [Act.put, List.setIfInBounds_toArray, List.set_cons_zero, List.set_cons_succ]
      refine take_on (i := 3) (v := ?_) rfl rfl (by kernel_rfl) (by kernel_rfl) (by kernel_rfl) (fun _ _ _ h => h) rfl ?_ hHeld ?_
      rotate_left
      · (intro wq hSq; have q1 := (hSq.cell (p := ⟨b1, o1 + k, none⟩) h1).trans d1; have q2 := (hSq.cell (p := ⟨b2, o2 + k, none⟩) h2).trans d2; go_simp <;> first | with_reducible rfl | rfl)
      simp only [Act.put, List.setIfInBounds_toArray, List.set_cons_zero, List.set_cons_succ]
      refine take_on (i := 4) (v := ?_) rfl rfl (by kernel_rfl) (by kernel_rfl) (by kernel_rfl) (fun _ _ _ h => h) rfl ?_ hHeld ?_
      rotate_left
      · (intro wq hSq; have q1 := (hSq.cell (p := ⟨b1, o1 + k, none⟩) h1).trans d1; have q2 := (hSq.cell (p := ⟨b2, o2 + k, none⟩) h2).trans d2; go_simp <;> first | with_reducible rfl | rfl)
      simp only [Act.put, List.setIfInBounds_toArray, List.set_cons_zero, List.set_cons_succ]
      refine take_on (i := 5) (v := ?_) rfl rfl (by kernel_rfl) (by kernel_rfl) (by kernel_rfl) (fun _ _ _ h => h) rfl ?_ hHeld ?_
      rotate_left
      · (intro wq hSq; have q1 := (hSq.cell (p := ⟨b1, o1 + k, none⟩) h1).trans d1; have q2 := (hSq.cell (p := ⟨b2, o2 + k, none⟩) h2).trans d2; go_simp <;> first | with_reducible rfl | rfl)
      simp only [Act.put, List.setIfInBounds_toArray, List.set_cons_zero, List.set_cons_succ]
      refine take_on (i := 6) (v := ?_) rfl rfl (by kernel_rfl) (by kernel_rfl) (by kernel_rfl) (fun _ _ _ h => h) rfl ?_ hHeld ?_
      rotate_left
      · (intro wq hSq; have q1 := (hSq.cell (p := ⟨b1, o1 + k, none⟩) h1).trans d1; have q2 := (hSq.cell (p := ⟨b2, o2 + k, none⟩) h2).trans d2; go_simp <;> first | with_reducible rfl | rfl)
      simp only [Act.put, List.setIfInBounds_toArray, List.set_cons_zero, List.set_cons_succ]
      refine take_on (i := 7) (v := ?_) rfl rfl (by kernel_rfl) (by kernel_rfl) (by kernel_rfl) (fun _ _ _ h => h) rfl ?_ hHeld ?_
      rotate_left
      · (intro wq hSq; have q1 := (hSq.cell (p := ⟨b1, o1 + k, none⟩) h1).trans d1; have q2 := (hSq.cell (p := ⟨b2, o2 + k, none⟩) h2).trans d2; go_simp <;> first | with_reducible rfl | rfl)
      simp only [Act.put, List.setIfInBounds_toArray, List.set_cons_zero, List.set_cons_succ]
      refine take_on (i := 8) (v := ?_) rfl rfl (by kernel_rfl) (by kernel_rfl) (by kernel_rfl) (fun _ _ _ h => h) rfl ?_ hHeld ?_
      rotate_left
      · (intro wq hSq; have q1 := (hSq.cell (p := ⟨b1, o1 + k, none⟩) h1).trans d1; have q2 := (hSq.cell (p := ⟨b2, o2 + k, none⟩) h2).trans d2; go_simp <;> first | with_reducible rfl | rfl)
      simp only [Act.put, List.setIfInBounds_toArray, List.set_cons_zero, List.set_cons_succ]
      refine wpAnyH_done (by kernel_rfl) ?_ _
      go_wp2_with fail
      go_roundw
      case rel => exact ⟨k + 1, by omega, by go_num, hbw.trans (hHeld.mono hs)⟩
      case measure => simp [intOf]; omega
    · clear ha hb
      go_wp2_with fail
      go_ret
      exact ⟨rfl, hbw⟩

/-- A row of spans: the slice's address, the bases and bytes, all in blocks from base on. -/
def RowT (w : World) (base : Nat) (a : Option Addr) (n : Nat) (T : Nat → Nat × List Nat) : Prop :=
  n = 0 ∨ ∃ b o, a = some ⟨b, o, none⟩ ∧ b < w.heap.size ∧ base ≤ b ∧ ∀ i, i < n → ∃ ra rc, w.cell? ⟨b, o + i * 2, none⟩ = some (.int .i64 ((T i).1 : Int)) ∧ w.cell? ⟨b, o + i * 2 + 1, none⟩ = some (.slice ra (T i).2.length rc) ∧ RowB w ra (T i).2 ∧ lowA base ra
theorem RowT.keep {w w' : World} {base : Nat} {a : Option Addr} {n : Nat} {T : Nat → Nat × List Nat} (h : RowT w base a n T) (hs : w.heap.size ≤ w'.heap.size) (hk : ∀ b, base ≤ b → b < w.heap.size → w'.heap[b]? = w.heap[b]?) : RowT w' base a n T := by
  rcases h with h | ⟨b, o, e, hlt, hlo, hc⟩
  · exact .inl h
  · refine .inr ⟨b, o, e, Nat.lt_of_lt_of_le hlt hs, hlo, fun i hi => ?_⟩
    obtain ⟨ra, rc, h1, h2, h3, h4⟩ := hc i hi
    exact ⟨ra, rc, (World.cell?_of_block (w := w) (a := ⟨b, o + i * 2, none⟩) (hk b hlo hlt)).trans h1, (World.cell?_of_block (w := w) (a := ⟨b, o + i * 2 + 1, none⟩) (hk b hlo hlt)).trans h2, h3.keep hs fun ad e2 hl => hk _ (h4 ad e2) hl, h4⟩
theorem RowT.below {w w' : World} {base : Nat} {a : Option Addr} {n : Nat} {T : Nat → Nat × List Nat} (h : RowT w base a n T) (hb : Below w.heap.size w w') : RowT w' base a n T := h.keep hb.size fun b _ hl => hb.block b hl
theorem Spans.rowT {w : World} {base X n : Nat} {T : Nat → Nat × List Nat} {r : Nat → Value} (h : Spans w base X n T r) : RowT w base (some ⟨X, 0, none⟩) n T := by
  refine .inr ⟨X, 0, rfl, h.lt, h.low, fun i hi => ?_⟩
  obtain ⟨c0, c1⟩ := h.cells hi
  obtain ⟨ra, rc, e1, e2, _, _, _⟩ := (h.own i hi).row
  refine ⟨ra, rc, by rw [Nat.zero_add]; exact c0, by rw [Nat.zero_add, c1, e1], e2, fun ad hd => ?_⟩
  subst hd
  exact ((h.own i hi).inside ad.block (by rw [e1]; rfl)).1
/-- What a call answers. -/
structure Ans where
  E : Int
  X : Int
  Y : Int
  Z : Int
  P : List Nat
  n : Nat
  T : Nat → Nat × List Nat
theorem rowF_one (w : World) (d k : Int) (t : Nat) (ty : TypeId) : RowF (w.alloc (.cells #[.int .i64 d, .int .i64 k, .int .u8 (t : Int)] ty)) (some ⟨w.heap.size, 0, none⟩) 1 (fun _ => ⟨d, k, t⟩) := by
  refine .inr ⟨_, _, rfl, by simp, fun i hi => ?_⟩
  obtain rfl : i = 0 := by omega
  have h := heap_alloc_new w (.cells #[.int .i64 d, .int .i64 k, .int .u8 (t : Int)] ty)
  exact ⟨cell_of_row _ _ _ _ _ _ h, cell_of_row _ _ _ _ _ _ h, cell_of_row _ _ _ _ _ _ h⟩
theorem all8_lit {L : List Nat} (h : L.all (· < 256) = true) : All8 L := fun z hz => by simpa using List.all_eq_true.1 h z hz
theorem Went.past {w W w1 w' : World} {F : Nat → Prop} {p : Nat} {am : Bool} {n : Nat} {s : Nat → Pt} (hb : Below w.heap.size w W) (hF : ∀ b, F b → b < w.heap.size) (h : Went W F p am n s w1) (hc : Chg (fun b => w.heap.size ≤ b ∧ b < W.heap.size) w1 w') : Went w F p am n s w' := by
  have h1 := hb.size
  have h2 := h.chg.size
  have h3 := hc.size
  refine ⟨(h.dsk.chg hc (fun b hb' hx => ?_)).mono (fun b hb' => ?_) (fun b hb' => ?_), ((Chg.new hb).trans h.chg (fun _ _ x => x)).trans hc (fun b hb' hx => by omega)⟩
  · rcases hb' with hb' | hb'
    · have := hF b hb'; omega
    · omega
  · rcases hb' with hb' | hb'
    · exact .inl hb'
    · exact .inr (by omega)
  · rcases hb' with hb' | hb'
    · have := hF b hb'; omega
    · exact hb'.2
def ans0 (E : Int) : Ans := ⟨E, 0, 0, 0, [], 0, fun _ => (0, [])⟩
/-- Is there an area of this number? -/
def inD (n : Nat) (I : Int) : Bool := decide (0 ≤ I ∧ I < (n : Int))
/-- May so much be read? -/
def rdB (x : Pt) (A N : Int) : Bool := decide (¬ (N < 0 ∨ A < (x.B : Int) ∨ (x.B : Int) + (x.bs.length : Int) < A + N))
def readA (n : Nat) (s : Nat → Pt) (I A N : Int) : Ans :=
  if inD n I = true then (if rdB (s I.toNat) A N = true then { ans0 0 with P := ((s I.toNat).bs.take ((A - ((s I.toNat).B : Int)).toNat + N.toNat)).drop (A - ((s I.toNat).B : Int)).toNat } else ans0 70) else ans0 81
def boundsA (n : Nat) (s : Nat → Pt) (I : Int) : Ans :=
  if inD n I = true then { ans0 0 with X := ((s I.toNat).B : Int), Y := (((s I.toNat).B + (s I.toNat).k : Nat) : Int), Z := (((s I.toNat).B + (s I.toNat).bs.length : Nat) : Int) } else ans0 81
def doneA (n : Nat) (s : Nat → Pt) (I : Int) : Int := if inD n I = true then ((s I.toNat).c : Int) else 0
/-- How great a disk is at most. -/
structure Bnd (M n : Nat) (s : Nat → Pt) : Prop where
  len : ∀ i, i < n → (s i).bs.length ≤ 140737488351232 + M
  room : ∀ i, i < n → (s i).B + (s i).bs.length ≤ 4611686018427387904 + 140737488351232 + M
  cnt : ∀ i, i < n → (s i).c ≤ M
section
variable {n : Nat}
theorem inD_iff {I : Int} (h : inD n I = true) : I = ((I.toNat : Nat) : Int) ∧ I.toNat < n := by
  unfold inD at h
  simp at h
  omega
theorem inD_no {I : Int} (h : ¬ inD n I = true) : I < 0 ∨ (n : Int) ≤ I := by
  unfold inD at h
  simp at h
  omega
end
theorem opX_small (x : Pt) (kd : Nat) (A : Int) (zs : List Nat) (hk : x.k ≤ x.bs.length) : (opX x kd A zs).2.bs.length ≤ x.bs.length + zs.length ∧ (opX x kd A zs).2.B + (opX x kd A zs).2.bs.length ≤ x.B + x.bs.length + zs.length ∧ (opX x kd A zs).2.c ≤ x.c + 1 := by
  unfold opX
  split
  · simp; omega
  · split
    · simp
    · split
      · split
        · simp
        · simp; omega
      · split
        · simp
        · simp; omega
theorem opS_small (am : Bool) (x : Pt) (kd : Nat) (A : Int) (zs : List Nat) (hk : x.k ≤ x.bs.length) : (opS am x kd A zs).2.bs.length ≤ x.bs.length + zs.length ∧ (opS am x kd A zs).2.B + (opS am x kd A zs).2.bs.length ≤ x.B + x.bs.length + zs.length ∧ (opS am x kd A zs).2.c ≤ x.c + 1 := by
  unfold opS
  split
  · simp
  · exact opX_small x kd A zs hk
theorem strX_small (x : Pt) (hk : x.k ≤ x.bs.length) : (strX x).bs.length ≤ x.bs.length ∧ (strX x).B = x.B ∧ (strX x).c = x.c := by
  unfold strX
  refine ⟨?_, rfl, rfl⟩
  have h : x.k + kpt x ≤ x.bs.length := by unfold kpt; omega
  show (crashB x.bs x.k (kpt x) x.ft).length ≤ _
  rw [crashB_len _ _ _ _ h]
  exact h
theorem Bnd.mono {M M' n : Nat} {s : Nat → Pt} (h : Bnd M n s) (hm : M ≤ M') : Bnd M' n s := ⟨fun i hi => by have := h.len i hi; omega, fun i hi => by have := h.room i hi; omega, fun i hi => by have := h.cnt i hi; omega⟩
theorem Bnd.op {M n : Nat} {s : Nat → Pt} (h : Bnd M n s) (am : Bool) {i : Nat} (kd : Nat) (A : Int) (zs : List Nat) (hle : ∀ i, i < n → (s i).k ≤ (s i).bs.length) : Bnd (M + 1 + zs.length) n (upd s i (opS am (s i) kd A zs).2) := by
  refine ⟨fun j hj => ?_, fun j hj => ?_, fun j hj => ?_⟩
  all_goals
    by_cases e : j = i
    · subst e
      rw [upd_at]
      have h1 := opS_small am (s j) kd A zs (hle j hj)
      have := h.len j hj; have := h.room j hj; have := h.cnt j hj
      omega
    · rw [upd_ne _ _ _ e]
      have := h.len j hj; have := h.room j hj; have := h.cnt j hj
      omega
theorem Bnd.arm {M n : Nat} {s : Nat → Pt} (h : Bnd M n s) (m : Nat) (f : Nat → Fte) (j : Nat) : Bnd M n (armTo s m f j) := by
  refine ⟨fun i hi => ?_, fun i hi => ?_, fun i hi => ?_⟩
  · unfold armTo; split
    · exact h.len i hi
    · exact h.len i hi
  · unfold armTo; split
    · exact h.room i hi
    · exact h.room i hi
  · unfold armTo; split
    · exact Nat.zero_le _
    · exact h.cnt i hi
theorem Bnd.strike {M n : Nat} {s : Nat → Pt} (h : Bnd M n s) (hle : ∀ i, i < n → (s i).k ≤ (s i).bs.length) : Bnd M n (strS s n) := by
  refine Bnd.arm ⟨fun i hi => ?_, fun i hi => ?_, fun i hi => ?_⟩ 0 _ n
  all_goals
    have h1 := strX_small (s i) (hle i hi)
    have := h.len i hi; have := h.room i hi; have := h.cnt i hi
    unfold strTo
    rw [if_pos hi]
    omega
theorem Bnd.new (n : Nat) : Bnd 0 n (fun _ => ⟨0, [], 0, 0, 0, 0, 0⟩) := ⟨fun _ _ => by simp, fun _ _ => by simp, fun _ _ => by simp⟩
theorem owb_empty (w : World) : OwB (w.alloc (.cells #[] 5)) w.heap.size (.slice (some ⟨w.heap.size, 0, none⟩) 0 0) [] := OwnS.of_row (own_empty w)

end Go.Proofs.YtkacfpmninmjkaaGreat
