/- The document's Covers, walked. -/
import Derived.Test.YthclmkmajlinhabCv2
namespace Go.Proofs.Ythclmkmajlinhab
open Go.RowKit

/-- A row of truths. -/
def BRow (w : World) (g n : Nat) (f : Nat → Bool) : Prop := w.rowIs g 4 n (fun i => .bool (f i))
theorem BRow.cell {w : World} {g n : Nat} {f : Nat → Bool} (H : BRow w g n f) {i : Nat} (hi : i < n) : w.cell? ⟨g, i, none⟩ = some (.bool (f i)) := World.rowIs.cell H hi
theorem BRow.frozen {w : World} {g n : Nat} {f : Nat → Bool} (H : BRow w g n f) (i : Nat) : w.frozen? ⟨g, i, none⟩ = false := World.rowIs.frozen H i
theorem BRow.set {w : World} {g n : Nat} {f : Nat → Bool} (H : BRow w g n f) (k : Nat) (x : Bool) {f' : Nat → Bool} (he : ∀ i, i < n → f' i = if i = k then x else f i) : BRow (w.setCell ⟨g, k, none⟩ (.bool x)) g n f' := by
  have h1 := World.rowIs.set H k (.bool x)
  refine World.rowIs.congr h1 (fun i hi => ?_)
  rw [he i hi]
  by_cases e : i = k
  · rw [if_pos e, if_pos e]
  · rw [if_neg e, if_neg e]
theorem BRow.congr {w : World} {g n : Nat} {f f' : Nat → Bool} (H : BRow w g n f) (he : ∀ i, i < n → f i = f' i) : BRow w g n f' := World.rowIs.congr H (fun i hi => by rw [he i hi])
theorem BRow.keep {w w' : World} {g n : Nat} {f : Nat → Bool} (H : BRow w g n f) (e : w'.heap[g]? = w.heap[g]?) : BRow w' g n f := by
  obtain ⟨c, hc, h2⟩ := H
  exact ⟨c, e.trans hc, h2⟩
theorem BRow.drewN {w : World} {g n : Nat} {f : Nat → Bool} (H : BRow w g n f) (m : Nat) : BRow (w.drewN m) g n f := by
  induction m with
  | zero => exact H
  | succ m ih => exact ih
theorem BRow.lt {w : World} {g n : Nat} {f : Nat → Bool} (H : BRow w g n f) : g < w.heap.size := World.rowIs.lt H
theorem BRow.made (w : World) (n : Nat) : BRow (w.alloc (.cells (madeCells #[.bool false] n) 4)) w.heap.size n (fun _ => false) := World.rowIs_made w _ _ _
/-- A row of rows, the first k of them made. -/
def rowVal (h : Nat → Nat) (n k i : Nat) : Value := if i < k then .slice (some ⟨h i, 0, none⟩) n n else .slice none 0 0
def MRow (w : World) (g n : Nat) (h : Nat → Nat) (k : Nat) : Prop := w.rowIs g 45 n (rowVal h n k)
theorem MRow.keep {w w' : World} {g n k : Nat} {h : Nat → Nat} (H : MRow w g n h k) (e : w'.heap[g]? = w.heap[g]?) : MRow w' g n h k := by
  obtain ⟨c, hc, h2⟩ := H
  exact ⟨c, e.trans hc, h2⟩
theorem MRow.lt {w : World} {g n k : Nat} {h : Nat → Nat} (H : MRow w g n h k) : g < w.heap.size := World.rowIs.lt H
theorem MRow.cell {w : World} {g n k : Nat} {h : Nat → Nat} (H : MRow w g n h k) {i : Nat} (hi : i < k) (hn : i < n) : w.cell? ⟨g, i, none⟩ = some (.slice (some ⟨h i, 0, none⟩) n n) := by
  have := World.rowIs.cell H hn
  rw [this]; unfold rowVal; rw [if_pos hi]
theorem MRow.cell0 {w : World} {g n k : Nat} {h : Nat → Nat} (H : MRow w g n h k) (hn : k < n) : w.cell? ⟨g, k, none⟩ = some (.slice none 0 0) := by
  have := World.rowIs.cell H hn
  rw [this]; unfold rowVal; rw [if_neg (by omega)]
theorem MRow.frozen {w : World} {g n k : Nat} {h : Nat → Nat} (H : MRow w g n h k) (i : Nat) : w.frozen? ⟨g, i, none⟩ = false := World.rowIs.frozen H i
theorem MRow.made (w : World) (n : Nat) (h : Nat → Nat) : MRow (w.alloc (.cells (madeCells #[.slice none 0 0] n) 45)) w.heap.size n h 0 :=
  World.rowIs.congr (World.rowIs_made w _ _ _) (fun i _ => by unfold rowVal; rw [if_neg (by omega)])
theorem MRow.put {w : World} {g n k : Nat} {h : Nat → Nat} (H : MRow w g n h k) (b : Nat) : MRow (w.setCell ⟨g, k, none⟩ (.slice (some ⟨b, 0, none⟩) n n)) g n (updN h k b) (k + 1) := by
  refine World.rowIs.congr (World.rowIs.set H k (.slice (some ⟨b, 0, none⟩) n n)) (fun i hi => ?_)
  unfold rowVal updN
  by_cases e : i = k
  · subst e; rw [if_pos rfl, if_pos (by omega), if_pos rfl]
  · rw [if_neg e, if_neg e]
    by_cases e2 : i < k
    · rw [if_pos e2, if_pos (by omega)]
    · rw [if_neg e2, if_neg (by omega)]
/-- The first k rows are filled. -/
def Filled (w : World) (S : List Nat) (g : Nat) (h : Nat → Nat) (k : Nat) : Prop := ∀ i, i < k → g < h i ∧ BRow w (h i) S.length (fun j => cov S (at0 S i) (at0 S j))
theorem Filled.below {w w' : World} {S : List Nat} {g k B : Nat} {h : Nat → Nat} (H : Filled w S g h k) (hB : ∀ i, i < k → h i < B) (hb : Below B w w') : Filled w' S g h k := fun i hi => by
  obtain ⟨h1, h2⟩ := H i hi
  exact ⟨h1, h2.keep (hb.block _ (hB i hi))⟩
theorem Filled.put {w : World} {S : List Nat} {g k b : Nat} {h : Nat → Nat} (H : Filled w S g h k) (hg : g < b) (hb : BRow w b S.length (fun j => cov S (at0 S k) (at0 S j))) : Filled w S g (updN h k b) (k + 1) := fun i hi => by
  unfold updN
  by_cases e : i = k
  · subst e; rw [if_pos rfl]; exact ⟨hg, hb⟩
  · rw [if_neg e]; exact H i (by omega)

theorem infoBool : (Try.prog.info? 4).map (fun i => (i.zero, i.size, i.bytes)) = some (some (.bool false), 1, 1) := by kernel_rfl
theorem infoBools : (Try.prog.info? 45).map (fun i => (i.zero, i.size, i.bytes)) = some (some (.slice none 0 0), 1, 24) := by kernel_rfl

set_option maxRecDepth 100000 in
set_option maxHeartbeats 8000000 in
theorem rcovers_any (a : Option Addr) (cap : Nat) (zs : List Nat) (w : World) (hr : Row w a zs) (h64 : All64 zs) (hl : zs.length ≤ 1048576) :
    Calls Try.prog 6 #[.slice a zs.length cap] w fun e w' => (∃ v, e = .returned v ∧ w'.ownsRow w.heap.size 34 2 v (prs zs zs.length).length ((prs zs zs.length).flatMap encP)) ∧ Below w.heap.size w w' := by
  have hmk := fun n (h : 24 * n ≤ 140737488355328) => run_make_row' (P := Try.prog) 44 45 (.slice none 0 0) 24 Try.underlying44 infoBools rfl .i64 .i64 n (by omega) (by omega)
  have hmb := fun n (h : n ≤ 140737488355328) => run_make_row' (P := Try.prog) 45 4 (.bool false) 1 Try.underlying45 infoBool rfl .i64 .i64 n (by omega) (by omega)
  go_enter Try.func6, Try.ntmps6
  go_wp2_with fail
  refine (unlike_any a cap zs w hr (by omega)).mono ?_
  rintro e w1 ⟨⟨v, ga, S, A, rfl, hown, hat, hga, hunl⟩, hb1⟩
  have hS64 : All64 S := fun z hz => h64 z ((hunl.mem z).1 hz)
  have hSl := hunl.len
  obtain ⟨sa, sc, hv, hSr, _, _⟩ := hown.row
  subst hv
  have hmk1 := hmk S.length (by omega)
  have HUN := hidden hunl
  have hs1 := hb1.size
  clear hunl hown hmk
  go_wp2_with fail
  clear hmk1
  have hr0 := MRow.made w1 S.length (fun _ => 0)
  have hb0 : Below w1.heap.size w1 (w1.alloc (.cells (madeCells #[.slice none 0 0] S.length) 45)) := (Below.refl _ _).alloc (Nat.le_refl _) _
  obtain ⟨W0, hW0⟩ : ∃ W0, W0 = w1.alloc (.cells (madeCells #[.slice none 0 0] S.length) 45) := ⟨_, rfl⟩
  rw [← hW0] at hr0 hb0 ⊢
  obtain ⟨g, hg⟩ : ∃ g, g = w1.heap.size := ⟨_, rfl⟩
  rw [← hg] at hr0 ⊢
  have hgb : w1.heap.size ≤ g := by omega
  clear hW0 hg
  go_loopw [6] (fun i wr => ∃ (k : Nat) (h : Nat → Nat), k ≤ S.length ∧ i = .int .i64 k ∧ MRow wr g S.length h k ∧ Hid (Filled wr S g h k) ∧ Below w1.heap.size w1 wr) (fun i _ => S.length - (intOf i).toNat)
  case atStart => exact ⟨0, fun _ => 0, by omega, rfl, hr0, (fun i hi => by omega), hb0⟩
  case round =>
    obtain ⟨k, h, hk, rfl, hrow, hfl, hbl⟩ := hrel
    clear hr0 hb0
    by_cases hkS : k < S.length
    · have hki : (k : Int) < (S.length : Int) := by omega
      have hmb1 := hmb S.length (by omega)
      have hglt := hrow.lt
      have hrowA : MRow (wr.alloc (.cells (madeCells #[.bool false] S.length) 4)) g S.length h k := hrow.keep (Below.heap_alloc _ _ _ hglt)
      have c0 := hrowA.cell0 hkS
      have f0 := hrowA.frozen k
      have hss : (wr.setCell ⟨g, k, none⟩ (.slice (some ⟨wr.heap.size, 0, none⟩) S.length S.length)).heap.size = wr.heap.size := by simp
      have hrow2 : MRow ((wr.setCell ⟨g, k, none⟩ (.slice (some ⟨wr.heap.size, 0, none⟩) S.length S.length)).alloc (.cells (madeCells #[.bool false] S.length) 4)) g S.length (updN h k wr.heap.size) (k + 1) := (hrow.put wr.heap.size).keep (Below.heap_alloc _ _ _ (by rw [hss]; exact hglt))
      have hbr2 : BRow ((wr.setCell ⟨g, k, none⟩ (.slice (some ⟨wr.heap.size, 0, none⟩) S.length S.length)).alloc (.cells (madeCells #[.bool false] S.length) 4)) wr.heap.size S.length (fun _ => false) := by
        have := BRow.made (wr.setCell ⟨g, k, none⟩ (.slice (some ⟨wr.heap.size, 0, none⟩) S.length S.length)) S.length
        rw [hss] at this
        exact this
      have hbl2 : Below w1.heap.size w1 ((wr.setCell ⟨g, k, none⟩ (.slice (some ⟨wr.heap.size, 0, none⟩) S.length S.length)).alloc (.cells (madeCells #[.bool false] S.length) 4)) := (hbl.setCell hgb _).alloc (by rw [hss]; exact hbl.size) _
      have hfl2 : Filled ((wr.setCell ⟨g, k, none⟩ (.slice (some ⟨wr.heap.size, 0, none⟩) S.length S.length)).alloc (.cells (madeCells #[.bool false] S.length) 4)) S g h k := fun i hi => by
        obtain ⟨q1, q2⟩ := hfl.out i hi
        exact ⟨q1, (q2.keep (Below.heap_setCell _ _ _ _ (show h i ≠ g by omega))).keep (Below.heap_alloc _ _ _ (by rw [hss]; exact q2.lt))⟩
      have hhb : ∀ i, i < k → h i < wr.heap.size := fun i hi => (hfl.out i hi).2.lt
      have HFL := hidden hfl2
      have HHB := hidden hhb
      clear hfl hfl2 hhb hrow hrowA hss
      go_wp2_with fail
      clear hmb1 c0 f0
      obtain ⟨W2, hW2⟩ : ∃ W2, W2 = (wr.setCell ⟨g, k, none⟩ (.slice (some ⟨wr.heap.size, 0, none⟩) S.length S.length)).alloc (.cells (madeCells #[.bool false] S.length) 4) := ⟨_, rfl⟩
      rw [← hW2] at hrow2 hbr2 hbl2 HFL ⊢
      obtain ⟨b, hb⟩ : ∃ b, b = wr.heap.size := ⟨_, rfl⟩
      rw [← hb] at hrow2 hbr2 HHB hglt ⊢
      clear hW2 hb hbl
      have hgb2 : w1.heap.size ≤ b := by omega
      have hcS := hrow2.cell (i := k) (by omega) hkS
      have huk : updN h k b k = b := by unfold updN; rw [if_pos rfl]
      rw [huk] at hcS
      clear huk
      go_loopw [7] (fun i wq => ∃ q : Nat, q ≤ S.length ∧ i = .int .i64 (q : Int) ∧ BRow wq b S.length (fun j => if j < q then cov S (at0 S k) (at0 S j) else false) ∧ Below b W2 wq) (fun i _ => S.length - (intOf i).toNat)
      case atStart => exact ⟨0, by omega, rfl, hbr2.congr (fun i _ => by rw [if_neg (by omega)]), Below.refl _ _⟩
      case round =>
        clear hbr2
        obtain ⟨q, hq, rfl, hbr, hbq⟩ := hrel
        by_cases hqS : q < S.length
        · have hqi : (q : Int) < (S.length : Int) := by omega
          obtain ⟨sb, so, rfl, hbb, hcz⟩ := hSr.here hkS
          have hbl3 := hbl2.trans (hbq.mono hgb2)
          have c1 := (hbl3.cell (p := ⟨sb, so + k, none⟩) hbb).trans (hcz k hkS)
          have c2 := (hbl3.cell (p := ⟨sb, so + q, none⟩) hbb).trans (hcz q hqS)
          have c3 := (hbq.cell (p := ⟨g, k, none⟩) hglt).trans hcS
          have c4 := hbr.cell hqS
          have f4 := hbr.frozen q
          have hsw : sb < b := by omega
          have hX := hS64.at k
          have hY := hS64.at q
          have hbt : ∀ w', Below b wr w' → Calls Try.prog 16 #[.slice (some ⟨sb, so, none⟩) S.length sc, .int .u64 ((at0 S k : Nat) : Int), .int .u64 ((at0 S q : Nat) : Int)] w' fun e w'' => e = .returned (.bool (btw S (at0 S k) (at0 S q))) ∧ w'' = w' :=
            fun w' hw => rbetween_any _ sc S _ _ w' (hSr.below (hbl3.trans (hw.mono hgb2))) hS64 hX hY (by unfold maxLen; omega)
          have hset : ∀ (wq : World) (x : Bool), BRow wq b S.length (fun j => if j < q then cov S (at0 S k) (at0 S j) else false) → x = cov S (at0 S k) (at0 S q) → BRow (wq.setCell ⟨b, q, none⟩ (.bool x)) b S.length (fun j => if j < q + 1 then cov S (at0 S k) (at0 S j) else false) := fun wq x hwq hx => hwq.set q x (fun i _ => by
            by_cases e : i = q
            · subst e; rw [if_pos (by omega), if_pos rfl, hx]
            · rw [if_neg e]
              by_cases e2 : i < q
              · rw [if_pos e2, if_pos (by omega)]
              · rw [if_neg e2, if_neg (by omega)])
          have hcv : cov S (at0 S k) (at0 S q) = (bel (at0 S k) (at0 S q) && !btw S (at0 S k) (at0 S q)) := rfl
          have HSET := hidden hset
          have HBR := hidden hbr
          have HCV := hidden hcv
          obtain ⟨X, hXe⟩ : ∃ X, X = at0 S k := ⟨_, rfl⟩
          obtain ⟨Y, hYe⟩ : ∃ Y, Y = at0 S q := ⟨_, rfl⟩
          obtain ⟨V, hVe⟩ : ∃ V, V = btw S X Y := ⟨_, rfl⟩
          rw [← hXe] at c1 hX hbt HCV
          rw [← hYe] at c2 hY hbt HCV
          rw [← hVe] at hbt HCV
          rw [if_neg (Nat.lt_irrefl q)] at c4
          have HX := hidden hXe
          have HY := hidden hYe
          have hbe := rbelow_any X Y
          have hkeep : ∀ v, Below b wr (wr.setCell ⟨b, q, none⟩ v).drew := fun v => ((Below.refl b wr).setCell (p := ⟨b, q, none⟩) (Nat.le_refl b) v).drew
          clear hcz hset hbr hcv hXe hYe hVe
          cases hbl' : bel X Y with
          | false =>
            have HB := hidden hbl'
            clear hbl' hbt
            go_wp2_with fail
            refine wp_region_held_drew (S := (fun w' => Below b wr w')) (by kernel_rfl) ?_ (fun hHeld => ?_)
            · exact (Below.refl _ _).drew
            refine take_on (i := 0) (v := ?_) rfl rfl (by kernel_rfl) (by kernel_rfl) (by kernel_rfl) (fun _ _ _ h => h) rfl ?_ hHeld ?_
            rotate_left
            · (intro wq hSq; have q1 := (hSq.cell (p := ⟨sb, so + k, none⟩) hsw).trans c1; have q2 := (hSq.cell (p := ⟨sb, so + q, none⟩) hsw).trans c2; have q3 := (hSq.cell (p := ⟨g, k, none⟩) hglt).trans c3; go_simp <;> first | with_reducible rfl | rfl)
            simp only [Act.put, List.setIfInBounds_toArray, List.set_cons_zero, List.set_cons_succ]
            refine take_on (i := 1) (v := ?_) rfl rfl (by kernel_rfl) (by kernel_rfl) (by kernel_rfl) (fun _ _ _ h => h) rfl ?_ hHeld ?_
            rotate_left
            · (intro wq hSq; have q1 := (hSq.cell (p := ⟨sb, so + k, none⟩) hsw).trans c1; have q2 := (hSq.cell (p := ⟨sb, so + q, none⟩) hsw).trans c2; have q3 := (hSq.cell (p := ⟨g, k, none⟩) hglt).trans c3; go_simp <;> first | with_reducible rfl | rfl)
            simp only [Act.put, List.setIfInBounds_toArray, List.set_cons_zero, List.set_cons_succ]
            refine take_on (i := 2) (v := ?_) rfl rfl (by kernel_rfl) (by kernel_rfl) (by kernel_rfl) (fun _ _ _ h => h) rfl ?_ hHeld ?_
            rotate_left
            · (intro wq hSq; have q1 := (hSq.cell (p := ⟨sb, so + k, none⟩) hsw).trans c1; have q2 := (hSq.cell (p := ⟨sb, so + q, none⟩) hsw).trans c2; have q3 := (hSq.cell (p := ⟨g, k, none⟩) hglt).trans c3; go_simp <;> first | with_reducible rfl | rfl)
            simp only [Act.put, List.setIfInBounds_toArray, List.set_cons_zero, List.set_cons_succ]
            refine take_on (i := 3) (v := ?_) rfl rfl (by kernel_rfl) (by kernel_rfl) (by kernel_rfl) (fun _ _ _ h => h) rfl ?_ hHeld ?_
            rotate_left
            · (intro wq hSq; have q1 := (hSq.cell (p := ⟨sb, so + k, none⟩) hsw).trans c1; have q2 := (hSq.cell (p := ⟨sb, so + q, none⟩) hsw).trans c2; have q3 := (hSq.cell (p := ⟨g, k, none⟩) hglt).trans c3; go_simp <;> first | with_reducible rfl | rfl)
            simp only [Act.put, List.setIfInBounds_toArray, List.set_cons_zero, List.set_cons_succ]
            refine take_on (i := 4) (v := ?_) rfl rfl (by kernel_rfl) (by kernel_rfl) (by kernel_rfl) (fun _ _ _ h => h) rfl ?_ hHeld ?_
            rotate_left
            · (intro wq hSq; have q1 := (hSq.cell (p := ⟨sb, so + k, none⟩) hsw).trans c1; have q2 := (hSq.cell (p := ⟨sb, so + q, none⟩) hsw).trans c2; have q3 := (hSq.cell (p := ⟨g, k, none⟩) hglt).trans c3; go_simp <;> first | with_reducible rfl | rfl)
            simp only [Act.put, List.setIfInBounds_toArray, List.set_cons_zero, List.set_cons_succ]
            refine take_on (i := 5) (v := ?_) rfl rfl (by kernel_rfl) (by kernel_rfl) (by kernel_rfl) (fun _ _ _ h => h) rfl ?_ hHeld ?_
            rotate_left
            · (intro wq hSq; have q1 := (hSq.cell (p := ⟨sb, so + k, none⟩) hsw).trans c1; have q2 := (hSq.cell (p := ⟨sb, so + q, none⟩) hsw).trans c2; have q3 := (hSq.cell (p := ⟨g, k, none⟩) hglt).trans c3; go_simp <;> first | with_reducible rfl | rfl)
            simp only [Act.put, List.setIfInBounds_toArray, List.set_cons_zero, List.set_cons_succ]
            refine take_on (i := 6) (v := ?_) rfl rfl (by kernel_rfl) (by kernel_rfl) (by kernel_rfl) (fun _ _ _ h => h) rfl ?_ hHeld ?_
            rotate_left
            · (intro wq hSq; have q1 := (hSq.cell (p := ⟨sb, so + k, none⟩) hsw).trans c1; have q2 := (hSq.cell (p := ⟨sb, so + q, none⟩) hsw).trans c2; have q3 := (hSq.cell (p := ⟨g, k, none⟩) hglt).trans c3; go_simp <;> first | with_reducible rfl | rfl)
            simp only [Act.put, List.setIfInBounds_toArray, List.set_cons_zero, List.set_cons_succ]
            refine take_on (i := 7) (v := ?_) rfl rfl (by kernel_rfl) (by kernel_rfl) (by kernel_rfl) (fun _ _ _ h => h) rfl ?_ hHeld ?_
            rotate_left
            · (intro wq hSq; have q1 := (hSq.cell (p := ⟨sb, so + k, none⟩) hsw).trans c1; have q2 := (hSq.cell (p := ⟨sb, so + q, none⟩) hsw).trans c2; have q3 := (hSq.cell (p := ⟨g, k, none⟩) hglt).trans c3; go_simp <;> first | with_reducible rfl | rfl)
            simp only [Act.put, List.setIfInBounds_toArray, List.set_cons_zero, List.set_cons_succ]
            refine take_on (i := 8) (v := ?_) rfl rfl (by kernel_rfl) (by kernel_rfl) (by kernel_rfl) (fun _ _ _ h => h) rfl ?_ hHeld ?_
            rotate_left
            · (intro wq hSq; have q1 := (hSq.cell (p := ⟨sb, so + k, none⟩) hsw).trans c1; have q2 := (hSq.cell (p := ⟨sb, so + q, none⟩) hsw).trans c2; have q3 := (hSq.cell (p := ⟨g, k, none⟩) hglt).trans c3; go_simp <;> first | with_reducible rfl | rfl)
            simp only [Act.put, List.setIfInBounds_toArray, List.set_cons_zero, List.set_cons_succ]
            refine take_on (i := 9) (v := ?_) rfl rfl (by kernel_rfl) (by kernel_rfl) (by kernel_rfl) (fun _ _ _ h => h) rfl ?_ hHeld ?_
            rotate_left
            · (intro wq hSq; have q1 := (hSq.cell (p := ⟨sb, so + k, none⟩) hsw).trans c1; have q2 := (hSq.cell (p := ⟨sb, so + q, none⟩) hsw).trans c2; have q3 := (hSq.cell (p := ⟨g, k, none⟩) hglt).trans c3; go_simp <;> first | with_reducible rfl | rfl)
            simp only [Act.put, List.setIfInBounds_toArray, List.set_cons_zero, List.set_cons_succ]
            refine take_on (i := 10) (v := ?_) rfl rfl (by kernel_rfl) (by kernel_rfl) (by kernel_rfl) (fun _ _ _ h => h) rfl ?_ hHeld ?_
            rotate_left
            · (intro wq hSq; have q1 := (hSq.cell (p := ⟨sb, so + k, none⟩) hsw).trans c1; have q2 := (hSq.cell (p := ⟨sb, so + q, none⟩) hsw).trans c2; have q3 := (hSq.cell (p := ⟨g, k, none⟩) hglt).trans c3; go_simp <;> first | with_reducible rfl | rfl)
            simp only [Act.put, List.setIfInBounds_toArray, List.set_cons_zero, List.set_cons_succ]
            refine take_on (i := 11) (v := ?_) rfl rfl (by kernel_rfl) (by kernel_rfl) (by kernel_rfl) (fun _ _ _ h => h) rfl ?_ hHeld ?_
            rotate_left
            · (intro wq hSq; have q1 := (hSq.cell (p := ⟨sb, so + k, none⟩) hsw).trans c1; have q2 := (hSq.cell (p := ⟨sb, so + q, none⟩) hsw).trans c2; have q3 := (hSq.cell (p := ⟨g, k, none⟩) hglt).trans c3; go_simp <;> first | with_reducible rfl | rfl)
            simp only [Act.put, List.setIfInBounds_toArray, List.set_cons_zero, List.set_cons_succ]
            refine take_on (i := 12) (v := ?_) rfl rfl (by kernel_rfl) (by kernel_rfl) (by kernel_rfl) (fun _ _ _ h => h) rfl ?_ hHeld ?_
            rotate_left
            · (intro wq hSq; have q1 := (hSq.cell (p := ⟨sb, so + k, none⟩) hsw).trans c1; have q2 := (hSq.cell (p := ⟨sb, so + q, none⟩) hsw).trans c2; have q3 := (hSq.cell (p := ⟨g, k, none⟩) hglt).trans c3; go_simp <;> first | with_reducible rfl | rfl)
            simp only [Act.put, List.setIfInBounds_toArray, List.set_cons_zero, List.set_cons_succ]
            refine take_one (i := 13) rfl (by kernel_rfl) (fun K hK => ?_)
            go_simp
            refine (hbe _ hX hY).mono ?_; rw [HB.out]; rintro e y1 ⟨rfl, hq1⟩; have hq2 := hq1.symm; subst hq2; clear hq1
            try go_wp2_with fail
            refine hK.out _ _ ?_ (fun hHeld => ?_)
            · exact hHeld
            clear hK K
            try simp only [Act.put, List.setIfInBounds_toArray, List.set_cons_zero, List.set_cons_succ]
            refine take_on (i := 14) (v := ?_) rfl rfl (by kernel_rfl) (by kernel_rfl) (by kernel_rfl) (fun _ _ _ h => h) rfl ?_ hHeld ?_
            rotate_left
            · (intro wq hSq; have q1 := (hSq.cell (p := ⟨sb, so + k, none⟩) hsw).trans c1; have q2 := (hSq.cell (p := ⟨sb, so + q, none⟩) hsw).trans c2; have q3 := (hSq.cell (p := ⟨g, k, none⟩) hglt).trans c3; go_simp <;> first | with_reducible rfl | rfl)
            simp only [Act.put, List.setIfInBounds_toArray, List.set_cons_zero, List.set_cons_succ]
            refine take_off (i := 15) rfl rfl (by kernel_rfl) (by kernel_rfl) (by kernel_rfl) (fun _ _ _ h => h) rfl hHeld ?_
            simp only [Act.put, List.setIfInBounds_toArray, List.set_cons_zero, List.set_cons_succ]
            refine take_off (i := 16) rfl rfl (by kernel_rfl) (by kernel_rfl) (by kernel_rfl) (fun _ _ _ h => h) rfl hHeld ?_
            simp only [Act.put, List.setIfInBounds_toArray, List.set_cons_zero, List.set_cons_succ]
            refine take_off (i := 17) rfl rfl (by kernel_rfl) (by kernel_rfl) (by kernel_rfl) (fun _ _ _ h => h) rfl hHeld ?_
            simp only [Act.put, List.setIfInBounds_toArray, List.set_cons_zero, List.set_cons_succ]
            refine take_off (i := 18) rfl rfl (by kernel_rfl) (by kernel_rfl) (by kernel_rfl) (fun _ _ _ h => h) rfl hHeld ?_
            simp only [Act.put, List.setIfInBounds_toArray, List.set_cons_zero, List.set_cons_succ]
            refine take_off (i := 19) rfl rfl (by kernel_rfl) (by kernel_rfl) (by kernel_rfl) (fun _ _ _ h => h) rfl hHeld ?_
            simp only [Act.put, List.setIfInBounds_toArray, List.set_cons_zero, List.set_cons_succ]
            refine take_off (i := 20) rfl rfl (by kernel_rfl) (by kernel_rfl) (by kernel_rfl) (fun _ _ _ h => h) rfl hHeld ?_
            simp only [Act.put, List.setIfInBounds_toArray, List.set_cons_zero, List.set_cons_succ]
            refine take_off (i := 21) rfl rfl (by kernel_rfl) (by kernel_rfl) (by kernel_rfl) (fun _ _ _ h => h) rfl hHeld ?_
            simp only [Act.put, List.setIfInBounds_toArray, List.set_cons_zero, List.set_cons_succ]
            refine take_off (i := 22) rfl rfl (by kernel_rfl) (by kernel_rfl) (by kernel_rfl) (fun _ _ _ h => h) rfl hHeld ?_
            simp only [Act.put, List.setIfInBounds_toArray, List.set_cons_zero, List.set_cons_succ]
            refine take_off (i := 23) rfl rfl (by kernel_rfl) (by kernel_rfl) (by kernel_rfl) (fun _ _ _ h => h) rfl hHeld ?_
            simp only [Act.put, List.setIfInBounds_toArray, List.set_cons_zero, List.set_cons_succ]
            refine take_off (i := 24) rfl rfl (by kernel_rfl) (by kernel_rfl) (by kernel_rfl) (fun _ _ _ h => h) rfl hHeld ?_
            simp only [Act.put, List.setIfInBounds_toArray, List.set_cons_zero, List.set_cons_succ]
            refine take_off (i := 25) rfl rfl (by kernel_rfl) (by kernel_rfl) (by kernel_rfl) (fun _ _ _ h => h) rfl hHeld ?_
            simp only [Act.put, List.setIfInBounds_toArray, List.set_cons_zero, List.set_cons_succ]
            refine take_on (i := 26) (v := ?_) rfl rfl (by kernel_rfl) (by kernel_rfl) (by kernel_rfl) (fun _ _ _ h => h) rfl ?_ hHeld ?_
            rotate_left
            · (intro wq hSq; have q1 := (hSq.cell (p := ⟨sb, so + k, none⟩) hsw).trans c1; have q2 := (hSq.cell (p := ⟨sb, so + q, none⟩) hsw).trans c2; have q3 := (hSq.cell (p := ⟨g, k, none⟩) hglt).trans c3; go_simp <;> first | with_reducible rfl | rfl)
            simp only [Act.put, List.setIfInBounds_toArray, List.set_cons_zero, List.set_cons_succ]
            refine take_on (i := 27) (v := ?_) rfl rfl (by kernel_rfl) (by kernel_rfl) (by kernel_rfl) (fun _ _ _ h => h) rfl ?_ hHeld ?_
            rotate_left
            · (intro wq hSq; have q1 := (hSq.cell (p := ⟨sb, so + k, none⟩) hsw).trans c1; have q2 := (hSq.cell (p := ⟨sb, so + q, none⟩) hsw).trans c2; have q3 := (hSq.cell (p := ⟨g, k, none⟩) hglt).trans c3; go_simp <;> first | with_reducible rfl | rfl)
            simp only [Act.put, List.setIfInBounds_toArray, List.set_cons_zero, List.set_cons_succ]
            refine take_one (i := 28) rfl (by kernel_rfl) (fun K hK => ?_)
            go_simp
            skip
            try go_wp2_with fail
            refine hK.out _ _ ?_ (fun hHeld => ?_)
            · exact hkeep _
            clear hK K
            try simp only [Act.put, List.setIfInBounds_toArray, List.set_cons_zero, List.set_cons_succ]
            refine wpAnyH_done (by kernel_rfl) ?_ _
            go_wp2_with fail
            go_roundw
            case rel => exact ⟨q + 1, by omega, by go_num, (HSET.out _ _ HBR.out (by rw [← HX.out, ← HY.out, HCV.out, HB.out]; rfl)).drewN 1, (hbq.setCell (Nat.le_refl _) _).drew⟩
            case measure => simp [intOf]; omega
          | true =>
            have HB := hidden hbl'
            clear hbl'
            go_wp2_with fail
            refine wp_region_held_drew (S := (fun w' => Below b wr w')) (by kernel_rfl) ?_ (fun hHeld => ?_)
            · exact (Below.refl _ _).drew
            refine take_on (i := 0) (v := ?_) rfl rfl (by kernel_rfl) (by kernel_rfl) (by kernel_rfl) (fun _ _ _ h => h) rfl ?_ hHeld ?_
            rotate_left
            · (intro wq hSq; have q1 := (hSq.cell (p := ⟨sb, so + k, none⟩) hsw).trans c1; have q2 := (hSq.cell (p := ⟨sb, so + q, none⟩) hsw).trans c2; have q3 := (hSq.cell (p := ⟨g, k, none⟩) hglt).trans c3; go_simp <;> first | with_reducible rfl | rfl)
            simp only [Act.put, List.setIfInBounds_toArray, List.set_cons_zero, List.set_cons_succ]
            refine take_on (i := 1) (v := ?_) rfl rfl (by kernel_rfl) (by kernel_rfl) (by kernel_rfl) (fun _ _ _ h => h) rfl ?_ hHeld ?_
            rotate_left
            · (intro wq hSq; have q1 := (hSq.cell (p := ⟨sb, so + k, none⟩) hsw).trans c1; have q2 := (hSq.cell (p := ⟨sb, so + q, none⟩) hsw).trans c2; have q3 := (hSq.cell (p := ⟨g, k, none⟩) hglt).trans c3; go_simp <;> first | with_reducible rfl | rfl)
            simp only [Act.put, List.setIfInBounds_toArray, List.set_cons_zero, List.set_cons_succ]
            refine take_on (i := 2) (v := ?_) rfl rfl (by kernel_rfl) (by kernel_rfl) (by kernel_rfl) (fun _ _ _ h => h) rfl ?_ hHeld ?_
            rotate_left
            · (intro wq hSq; have q1 := (hSq.cell (p := ⟨sb, so + k, none⟩) hsw).trans c1; have q2 := (hSq.cell (p := ⟨sb, so + q, none⟩) hsw).trans c2; have q3 := (hSq.cell (p := ⟨g, k, none⟩) hglt).trans c3; go_simp <;> first | with_reducible rfl | rfl)
            simp only [Act.put, List.setIfInBounds_toArray, List.set_cons_zero, List.set_cons_succ]
            refine take_on (i := 3) (v := ?_) rfl rfl (by kernel_rfl) (by kernel_rfl) (by kernel_rfl) (fun _ _ _ h => h) rfl ?_ hHeld ?_
            rotate_left
            · (intro wq hSq; have q1 := (hSq.cell (p := ⟨sb, so + k, none⟩) hsw).trans c1; have q2 := (hSq.cell (p := ⟨sb, so + q, none⟩) hsw).trans c2; have q3 := (hSq.cell (p := ⟨g, k, none⟩) hglt).trans c3; go_simp <;> first | with_reducible rfl | rfl)
            simp only [Act.put, List.setIfInBounds_toArray, List.set_cons_zero, List.set_cons_succ]
            refine take_on (i := 4) (v := ?_) rfl rfl (by kernel_rfl) (by kernel_rfl) (by kernel_rfl) (fun _ _ _ h => h) rfl ?_ hHeld ?_
            rotate_left
            · (intro wq hSq; have q1 := (hSq.cell (p := ⟨sb, so + k, none⟩) hsw).trans c1; have q2 := (hSq.cell (p := ⟨sb, so + q, none⟩) hsw).trans c2; have q3 := (hSq.cell (p := ⟨g, k, none⟩) hglt).trans c3; go_simp <;> first | with_reducible rfl | rfl)
            simp only [Act.put, List.setIfInBounds_toArray, List.set_cons_zero, List.set_cons_succ]
            refine take_on (i := 5) (v := ?_) rfl rfl (by kernel_rfl) (by kernel_rfl) (by kernel_rfl) (fun _ _ _ h => h) rfl ?_ hHeld ?_
            rotate_left
            · (intro wq hSq; have q1 := (hSq.cell (p := ⟨sb, so + k, none⟩) hsw).trans c1; have q2 := (hSq.cell (p := ⟨sb, so + q, none⟩) hsw).trans c2; have q3 := (hSq.cell (p := ⟨g, k, none⟩) hglt).trans c3; go_simp <;> first | with_reducible rfl | rfl)
            simp only [Act.put, List.setIfInBounds_toArray, List.set_cons_zero, List.set_cons_succ]
            refine take_on (i := 6) (v := ?_) rfl rfl (by kernel_rfl) (by kernel_rfl) (by kernel_rfl) (fun _ _ _ h => h) rfl ?_ hHeld ?_
            rotate_left
            · (intro wq hSq; have q1 := (hSq.cell (p := ⟨sb, so + k, none⟩) hsw).trans c1; have q2 := (hSq.cell (p := ⟨sb, so + q, none⟩) hsw).trans c2; have q3 := (hSq.cell (p := ⟨g, k, none⟩) hglt).trans c3; go_simp <;> first | with_reducible rfl | rfl)
            simp only [Act.put, List.setIfInBounds_toArray, List.set_cons_zero, List.set_cons_succ]
            refine take_on (i := 7) (v := ?_) rfl rfl (by kernel_rfl) (by kernel_rfl) (by kernel_rfl) (fun _ _ _ h => h) rfl ?_ hHeld ?_
            rotate_left
            · (intro wq hSq; have q1 := (hSq.cell (p := ⟨sb, so + k, none⟩) hsw).trans c1; have q2 := (hSq.cell (p := ⟨sb, so + q, none⟩) hsw).trans c2; have q3 := (hSq.cell (p := ⟨g, k, none⟩) hglt).trans c3; go_simp <;> first | with_reducible rfl | rfl)
            simp only [Act.put, List.setIfInBounds_toArray, List.set_cons_zero, List.set_cons_succ]
            refine take_on (i := 8) (v := ?_) rfl rfl (by kernel_rfl) (by kernel_rfl) (by kernel_rfl) (fun _ _ _ h => h) rfl ?_ hHeld ?_
            rotate_left
            · (intro wq hSq; have q1 := (hSq.cell (p := ⟨sb, so + k, none⟩) hsw).trans c1; have q2 := (hSq.cell (p := ⟨sb, so + q, none⟩) hsw).trans c2; have q3 := (hSq.cell (p := ⟨g, k, none⟩) hglt).trans c3; go_simp <;> first | with_reducible rfl | rfl)
            simp only [Act.put, List.setIfInBounds_toArray, List.set_cons_zero, List.set_cons_succ]
            refine take_on (i := 9) (v := ?_) rfl rfl (by kernel_rfl) (by kernel_rfl) (by kernel_rfl) (fun _ _ _ h => h) rfl ?_ hHeld ?_
            rotate_left
            · (intro wq hSq; have q1 := (hSq.cell (p := ⟨sb, so + k, none⟩) hsw).trans c1; have q2 := (hSq.cell (p := ⟨sb, so + q, none⟩) hsw).trans c2; have q3 := (hSq.cell (p := ⟨g, k, none⟩) hglt).trans c3; go_simp <;> first | with_reducible rfl | rfl)
            simp only [Act.put, List.setIfInBounds_toArray, List.set_cons_zero, List.set_cons_succ]
            refine take_on (i := 10) (v := ?_) rfl rfl (by kernel_rfl) (by kernel_rfl) (by kernel_rfl) (fun _ _ _ h => h) rfl ?_ hHeld ?_
            rotate_left
            · (intro wq hSq; have q1 := (hSq.cell (p := ⟨sb, so + k, none⟩) hsw).trans c1; have q2 := (hSq.cell (p := ⟨sb, so + q, none⟩) hsw).trans c2; have q3 := (hSq.cell (p := ⟨g, k, none⟩) hglt).trans c3; go_simp <;> first | with_reducible rfl | rfl)
            simp only [Act.put, List.setIfInBounds_toArray, List.set_cons_zero, List.set_cons_succ]
            refine take_on (i := 11) (v := ?_) rfl rfl (by kernel_rfl) (by kernel_rfl) (by kernel_rfl) (fun _ _ _ h => h) rfl ?_ hHeld ?_
            rotate_left
            · (intro wq hSq; have q1 := (hSq.cell (p := ⟨sb, so + k, none⟩) hsw).trans c1; have q2 := (hSq.cell (p := ⟨sb, so + q, none⟩) hsw).trans c2; have q3 := (hSq.cell (p := ⟨g, k, none⟩) hglt).trans c3; go_simp <;> first | with_reducible rfl | rfl)
            simp only [Act.put, List.setIfInBounds_toArray, List.set_cons_zero, List.set_cons_succ]
            refine take_on (i := 12) (v := ?_) rfl rfl (by kernel_rfl) (by kernel_rfl) (by kernel_rfl) (fun _ _ _ h => h) rfl ?_ hHeld ?_
            rotate_left
            · (intro wq hSq; have q1 := (hSq.cell (p := ⟨sb, so + k, none⟩) hsw).trans c1; have q2 := (hSq.cell (p := ⟨sb, so + q, none⟩) hsw).trans c2; have q3 := (hSq.cell (p := ⟨g, k, none⟩) hglt).trans c3; go_simp <;> first | with_reducible rfl | rfl)
            simp only [Act.put, List.setIfInBounds_toArray, List.set_cons_zero, List.set_cons_succ]
            refine take_one (i := 13) rfl (by kernel_rfl) (fun K hK => ?_)
            go_simp
            refine (hbe _ hX hY).mono ?_; rw [HB.out]; rintro e y1 ⟨rfl, hq1⟩; have hq2 := hq1.symm; subst hq2; clear hq1
            try go_wp2_with fail
            refine hK.out _ _ ?_ (fun hHeld => ?_)
            · exact hHeld
            clear hK K
            try simp only [Act.put, List.setIfInBounds_toArray, List.set_cons_zero, List.set_cons_succ]
            refine take_on (i := 14) (v := ?_) rfl rfl (by kernel_rfl) (by kernel_rfl) (by kernel_rfl) (fun _ _ _ h => h) rfl ?_ hHeld ?_
            rotate_left
            · (intro wq hSq; have q1 := (hSq.cell (p := ⟨sb, so + k, none⟩) hsw).trans c1; have q2 := (hSq.cell (p := ⟨sb, so + q, none⟩) hsw).trans c2; have q3 := (hSq.cell (p := ⟨g, k, none⟩) hglt).trans c3; go_simp <;> first | with_reducible rfl | rfl)
            simp only [Act.put, List.setIfInBounds_toArray, List.set_cons_zero, List.set_cons_succ]
            refine take_on (i := 15) (v := ?_) rfl rfl (by kernel_rfl) (by kernel_rfl) (by kernel_rfl) (fun _ _ _ h => h) rfl ?_ hHeld ?_
            rotate_left
            · (intro wq hSq; have q1 := (hSq.cell (p := ⟨sb, so + k, none⟩) hsw).trans c1; have q2 := (hSq.cell (p := ⟨sb, so + q, none⟩) hsw).trans c2; have q3 := (hSq.cell (p := ⟨g, k, none⟩) hglt).trans c3; go_simp <;> first | with_reducible rfl | rfl)
            simp only [Act.put, List.setIfInBounds_toArray, List.set_cons_zero, List.set_cons_succ]
            refine take_on (i := 16) (v := ?_) rfl rfl (by kernel_rfl) (by kernel_rfl) (by kernel_rfl) (fun _ _ _ h => h) rfl ?_ hHeld ?_
            rotate_left
            · (intro wq hSq; have q1 := (hSq.cell (p := ⟨sb, so + k, none⟩) hsw).trans c1; have q2 := (hSq.cell (p := ⟨sb, so + q, none⟩) hsw).trans c2; have q3 := (hSq.cell (p := ⟨g, k, none⟩) hglt).trans c3; go_simp <;> first | with_reducible rfl | rfl)
            simp only [Act.put, List.setIfInBounds_toArray, List.set_cons_zero, List.set_cons_succ]
            refine take_on (i := 17) (v := ?_) rfl rfl (by kernel_rfl) (by kernel_rfl) (by kernel_rfl) (fun _ _ _ h => h) rfl ?_ hHeld ?_
            rotate_left
            · (intro wq hSq; have q1 := (hSq.cell (p := ⟨sb, so + k, none⟩) hsw).trans c1; have q2 := (hSq.cell (p := ⟨sb, so + q, none⟩) hsw).trans c2; have q3 := (hSq.cell (p := ⟨g, k, none⟩) hglt).trans c3; go_simp <;> first | with_reducible rfl | rfl)
            simp only [Act.put, List.setIfInBounds_toArray, List.set_cons_zero, List.set_cons_succ]
            refine take_on (i := 18) (v := ?_) rfl rfl (by kernel_rfl) (by kernel_rfl) (by kernel_rfl) (fun _ _ _ h => h) rfl ?_ hHeld ?_
            rotate_left
            · (intro wq hSq; have q1 := (hSq.cell (p := ⟨sb, so + k, none⟩) hsw).trans c1; have q2 := (hSq.cell (p := ⟨sb, so + q, none⟩) hsw).trans c2; have q3 := (hSq.cell (p := ⟨g, k, none⟩) hglt).trans c3; go_simp <;> first | with_reducible rfl | rfl)
            simp only [Act.put, List.setIfInBounds_toArray, List.set_cons_zero, List.set_cons_succ]
            refine take_on (i := 19) (v := ?_) rfl rfl (by kernel_rfl) (by kernel_rfl) (by kernel_rfl) (fun _ _ _ h => h) rfl ?_ hHeld ?_
            rotate_left
            · (intro wq hSq; have q1 := (hSq.cell (p := ⟨sb, so + k, none⟩) hsw).trans c1; have q2 := (hSq.cell (p := ⟨sb, so + q, none⟩) hsw).trans c2; have q3 := (hSq.cell (p := ⟨g, k, none⟩) hglt).trans c3; go_simp <;> first | with_reducible rfl | rfl)
            simp only [Act.put, List.setIfInBounds_toArray, List.set_cons_zero, List.set_cons_succ]
            refine take_on (i := 20) (v := ?_) rfl rfl (by kernel_rfl) (by kernel_rfl) (by kernel_rfl) (fun _ _ _ h => h) rfl ?_ hHeld ?_
            rotate_left
            · (intro wq hSq; have q1 := (hSq.cell (p := ⟨sb, so + k, none⟩) hsw).trans c1; have q2 := (hSq.cell (p := ⟨sb, so + q, none⟩) hsw).trans c2; have q3 := (hSq.cell (p := ⟨g, k, none⟩) hglt).trans c3; go_simp <;> first | with_reducible rfl | rfl)
            simp only [Act.put, List.setIfInBounds_toArray, List.set_cons_zero, List.set_cons_succ]
            refine take_on (i := 21) (v := ?_) rfl rfl (by kernel_rfl) (by kernel_rfl) (by kernel_rfl) (fun _ _ _ h => h) rfl ?_ hHeld ?_
            rotate_left
            · (intro wq hSq; have q1 := (hSq.cell (p := ⟨sb, so + k, none⟩) hsw).trans c1; have q2 := (hSq.cell (p := ⟨sb, so + q, none⟩) hsw).trans c2; have q3 := (hSq.cell (p := ⟨g, k, none⟩) hglt).trans c3; go_simp <;> first | with_reducible rfl | rfl)
            simp only [Act.put, List.setIfInBounds_toArray, List.set_cons_zero, List.set_cons_succ]
            refine take_on (i := 22) (v := ?_) rfl rfl (by kernel_rfl) (by kernel_rfl) (by kernel_rfl) (fun _ _ _ h => h) rfl ?_ hHeld ?_
            rotate_left
            · (intro wq hSq; have q1 := (hSq.cell (p := ⟨sb, so + k, none⟩) hsw).trans c1; have q2 := (hSq.cell (p := ⟨sb, so + q, none⟩) hsw).trans c2; have q3 := (hSq.cell (p := ⟨g, k, none⟩) hglt).trans c3; go_simp <;> first | with_reducible rfl | rfl)
            simp only [Act.put, List.setIfInBounds_toArray, List.set_cons_zero, List.set_cons_succ]
            refine take_on (i := 23) (v := ?_) rfl rfl (by kernel_rfl) (by kernel_rfl) (by kernel_rfl) (fun _ _ _ h => h) rfl ?_ hHeld ?_
            rotate_left
            · (intro wq hSq; have q1 := (hSq.cell (p := ⟨sb, so + k, none⟩) hsw).trans c1; have q2 := (hSq.cell (p := ⟨sb, so + q, none⟩) hsw).trans c2; have q3 := (hSq.cell (p := ⟨g, k, none⟩) hglt).trans c3; go_simp <;> first | with_reducible rfl | rfl)
            simp only [Act.put, List.setIfInBounds_toArray, List.set_cons_zero, List.set_cons_succ]
            refine take_one (i := 24) rfl (by kernel_rfl) (fun K hK => ?_)
            go_simp
            refine (hbt _ hHeld).mono ?_; rintro e y2 ⟨rfl, hq1⟩; have hq2 := hq1.symm; subst hq2; clear hq1
            try go_wp2_with fail
            refine hK.out _ _ ?_ (fun hHeld => ?_)
            · exact hHeld
            clear hK K
            try simp only [Act.put, List.setIfInBounds_toArray, List.set_cons_zero, List.set_cons_succ]
            refine take_on (i := 25) (v := ?_) rfl rfl (by kernel_rfl) (by kernel_rfl) (by kernel_rfl) (fun _ _ _ h => h) rfl ?_ hHeld ?_
            rotate_left
            · (intro wq hSq; have q1 := (hSq.cell (p := ⟨sb, so + k, none⟩) hsw).trans c1; have q2 := (hSq.cell (p := ⟨sb, so + q, none⟩) hsw).trans c2; have q3 := (hSq.cell (p := ⟨g, k, none⟩) hglt).trans c3; go_simp <;> first | with_reducible rfl | rfl)
            simp only [Act.put, List.setIfInBounds_toArray, List.set_cons_zero, List.set_cons_succ]
            refine take_on (i := 26) (v := ?_) rfl rfl (by kernel_rfl) (by kernel_rfl) (by kernel_rfl) (fun _ _ _ h => h) rfl ?_ hHeld ?_
            rotate_left
            · (intro wq hSq; have q1 := (hSq.cell (p := ⟨sb, so + k, none⟩) hsw).trans c1; have q2 := (hSq.cell (p := ⟨sb, so + q, none⟩) hsw).trans c2; have q3 := (hSq.cell (p := ⟨g, k, none⟩) hglt).trans c3; go_simp <;> first | with_reducible rfl | rfl)
            simp only [Act.put, List.setIfInBounds_toArray, List.set_cons_zero, List.set_cons_succ]
            refine take_on (i := 27) (v := ?_) rfl rfl (by kernel_rfl) (by kernel_rfl) (by kernel_rfl) (fun _ _ _ h => h) rfl ?_ hHeld ?_
            rotate_left
            · (intro wq hSq; have q1 := (hSq.cell (p := ⟨sb, so + k, none⟩) hsw).trans c1; have q2 := (hSq.cell (p := ⟨sb, so + q, none⟩) hsw).trans c2; have q3 := (hSq.cell (p := ⟨g, k, none⟩) hglt).trans c3; go_simp <;> first | with_reducible rfl | rfl)
            simp only [Act.put, List.setIfInBounds_toArray, List.set_cons_zero, List.set_cons_succ]
            refine take_one (i := 28) rfl (by kernel_rfl) (fun K hK => ?_)
            go_simp
            skip
            try go_wp2_with fail
            refine hK.out _ _ ?_ (fun hHeld => ?_)
            · exact hkeep _
            clear hK K
            try simp only [Act.put, List.setIfInBounds_toArray, List.set_cons_zero, List.set_cons_succ]
            refine wpAnyH_done (by kernel_rfl) ?_ _
            go_wp2_with fail
            go_roundw
            case rel => exact ⟨q + 1, by omega, by go_num, (HSET.out _ _ HBR.out (by rw [← HX.out, ← HY.out, HCV.out, HB.out]; rfl)).drewN 1, (hbq.setCell (Nat.le_refl _) _).drew⟩
            case measure => simp [intOf]; omega
        · have hqe : q = S.length := by omega
          subst hqe
          have hbfull := hbr.congr (f' := fun j => cov S (at0 S k) (at0 S j)) (fun i hi => by rw [if_pos hi])
          have hfl3 := (HFL.out.below HHB.out hbq).put hglt hbfull
          have hrow3 := hrow2.keep (hbq.block g hglt)
          have hbl3 := hbl2.trans (hbq.mono hgb2)
          have HF3 := hidden hfl3
          clear hfl3 hbfull hbr
          go_wp2_with fail
          go_roundw
          case rel => exact ⟨k + 1, updN h k b, by omega, by go_num, hrow3, HF3, hbl3⟩
          case measure => simp [intOf]; omega
    · have hke : k = S.length := by omega
      subst hke
      have hatl := hat.lt
      have hat4 : IRow wr ga zs.length A := hat.keep (hbl.block ga hatl)
      have hb14 := hb1.trans (hbl.mono hb1.size)
      have hrd : ∀ i j, i < zs.length → j < zs.length → A i < S.length ∧ A j < S.length ∧ ∃ gi, gi < wr.heap.size ∧ wr.cell? ⟨g, A i, none⟩ = some (.slice (some ⟨gi, 0, none⟩) S.length S.length) ∧ wr.cell? ⟨gi, A j, none⟩ = some (.bool (cov zs (at0 zs i) (at0 zs j))) := fun i j hi hj => by
        obtain ⟨hi1, hi2⟩ := HUN.out.found i hi
        obtain ⟨hj1, hj2⟩ := HUN.out.found j hj
        obtain ⟨_, hB⟩ := hfl.out (A i) hi1
        refine ⟨hi1, hj1, h (A i), hB.lt, hrow.cell hi1 hi1, ?_⟩
        rw [hB.cell hj1, hi2, hj2, cov_congr HUN.out.mem]
      have HRD := hidden hrd
      have hglt := hrow.lt
      have hws : w.heap.size ≤ wr.heap.size := hb14.size
      obtain ⟨j0, hj, hj0, hj1, hj2⟩ := info_parts infoPair
      clear hrow hfl hrd hmb hat
      obtain ⟨W4, hW4⟩ : ∃ W4, W4 = wr := ⟨_, rfl⟩
      rw [← hW4] at hat4 HRD hglt hws hb14 hbl ⊢
      clear hW4
      go_wp2_with fail
      go_loopw [8, 9] (fun v i wq => ∃ k : Nat, k ≤ zs.length ∧ i = .int .i64 k ∧ wq.ownsRow W4.heap.size 34 2 v (prs zs k).length ((prs zs k).flatMap encP) ∧ Below W4.heap.size W4 wq) (fun _ i _ => zs.length - (intOf i).toNat)
      case atStart => exact ⟨0, by omega, rfl, ⟨rfl, .inl ⟨rfl, rfl⟩⟩, Below.refl _ _⟩
      case round =>
        obtain ⟨k, hkz, rfl, hP, hb4⟩ := hrel
        by_cases hlt : k < zs.length
        · have hki : (k : Int) < (zs.length : Int) := by omega
          have hpk : (prs zs k).length ≤ 1048576 * 1048576 := Nat.le_trans (prs_len zs k) (Nat.mul_le_mul (by omega) (by omega))
          go_wp2_with fail
          go_loopw [8, 10] (fun v t wq => ∃ m : Nat, m ≤ zs.length ∧ t = .int .i64 m ∧ wq.ownsRow W4.heap.size 34 2 v (prs zs k ++ (covTo zs k m).map fun j => (k, j)).length ((prs zs k ++ (covTo zs k m).map fun j => (k, j)).flatMap encP) ∧ Below W4.heap.size W4 wq) (fun _ t _ => zs.length - (intOf t).toNat)
          case atStart => exact ⟨0, by omega, rfl, by simpa [covTo] using hP, hb4⟩
          case round =>
            clear hP hb4
            obtain ⟨m, hm, rfl, hP, hb4⟩ := hrel
            by_cases hmt : m < zs.length
            · have hmi : (m : Int) < (zs.length : Int) := by omega
              obtain ⟨hAk, hAm, gi, hgi, c2, c3⟩ := HRD.out k m hlt hmt
              have c0 := hat4.cell hlt
              have c1 := hat4.cell hmt
              have hgaw := hat4.lt
              have hyes := fun e => covTo_yes (zs := zs) (i := k) (m := m) e
              have hno := fun e => covTo_no (zs := zs) (i := k) (m := m) e
              have hcl := covTo_len zs k m
              obtain ⟨P, hPe⟩ : ∃ P, P = A k := ⟨_, rfl⟩
              obtain ⟨Q, hQe⟩ : ∃ Q, Q = A m := ⟨_, rfl⟩
              obtain ⟨V, hVe⟩ : ∃ V, V = cov zs (at0 zs k) (at0 zs m) := ⟨_, rfl⟩
              rw [← hPe] at c0 c2 hAk
              rw [← hQe] at c1 c3 hAm
              rw [← hVe] at c3 hyes hno
              have hPi : (P : Int) < (S.length : Int) := by omega
              have hQi : (Q : Int) < (S.length : Int) := by omega
              have HYES := hidden hyes
              have HNO := hidden hno
              have hbs := hb4.size
              have d0 := (hb4.cell (p := ⟨ga, k, none⟩) hgaw).trans c0
              have d1 := (hb4.cell (p := ⟨ga, m, none⟩) hgaw).trans c1
              have d2 := (hb4.cell (p := ⟨g, P, none⟩) hglt).trans c2
              have d3 := (hb4.cell (p := ⟨gi, Q, none⟩) hgi).trans c3
              have hw1 : ga < wr.heap.size := by omega
              have hw2 : g < wr.heap.size := by omega
              have hw3 : gi < wr.heap.size := by omega
              have hplen : (prs zs k ++ (covTo zs k m).map fun j => (k, j)).length ≤ 1048576 * 1048576 + 1048576 := by
                rw [List.length_append, List.length_map]; omega
              clear hPe hQe hVe hyes hno c0 c1 c2 c3
              cases V with
              | false =>
                have HNX := hidden (HNO.out rfl)
                clear HNO HYES
                go_wp2_with fail
                refine wp_region_held_drew (S := (fun w' => Below wr.heap.size wr w')) (by kernel_rfl) ?_ (fun hHeld => ?_)
                · exact (Below.refl _ _).drew
                refine take_on (i := 0) (v := ?_) rfl rfl (by kernel_rfl) (by kernel_rfl) (by kernel_rfl) (fun _ _ _ h => h) rfl ?_ hHeld ?_
                rotate_left
                · (intro wq hSq; have q0 := (hSq.cell (p := ⟨ga, k, none⟩) hw1).trans d0; have q1 := (hSq.cell (p := ⟨ga, m, none⟩) hw1).trans d1; have q2 := (hSq.cell (p := ⟨g, P, none⟩) hw2).trans d2; have q3 := (hSq.cell (p := ⟨gi, Q, none⟩) hw3).trans d3; go_simp <;> first | with_reducible rfl | rfl)
                simp only [Act.put, List.setIfInBounds_toArray, List.set_cons_zero, List.set_cons_succ]
                refine take_on (i := 1) (v := ?_) rfl rfl (by kernel_rfl) (by kernel_rfl) (by kernel_rfl) (fun _ _ _ h => h) rfl ?_ hHeld ?_
                rotate_left
                · (intro wq hSq; have q0 := (hSq.cell (p := ⟨ga, k, none⟩) hw1).trans d0; have q1 := (hSq.cell (p := ⟨ga, m, none⟩) hw1).trans d1; have q2 := (hSq.cell (p := ⟨g, P, none⟩) hw2).trans d2; have q3 := (hSq.cell (p := ⟨gi, Q, none⟩) hw3).trans d3; go_simp <;> first | with_reducible rfl | rfl)
                simp only [Act.put, List.setIfInBounds_toArray, List.set_cons_zero, List.set_cons_succ]
                refine take_on (i := 2) (v := ?_) rfl rfl (by kernel_rfl) (by kernel_rfl) (by kernel_rfl) (fun _ _ _ h => h) rfl ?_ hHeld ?_
                rotate_left
                · (intro wq hSq; have q0 := (hSq.cell (p := ⟨ga, k, none⟩) hw1).trans d0; have q1 := (hSq.cell (p := ⟨ga, m, none⟩) hw1).trans d1; have q2 := (hSq.cell (p := ⟨g, P, none⟩) hw2).trans d2; have q3 := (hSq.cell (p := ⟨gi, Q, none⟩) hw3).trans d3; go_simp <;> first | with_reducible rfl | rfl)
                simp only [Act.put, List.setIfInBounds_toArray, List.set_cons_zero, List.set_cons_succ]
                refine take_on (i := 3) (v := ?_) rfl rfl (by kernel_rfl) (by kernel_rfl) (by kernel_rfl) (fun _ _ _ h => h) rfl ?_ hHeld ?_
                rotate_left
                · (intro wq hSq; have q0 := (hSq.cell (p := ⟨ga, k, none⟩) hw1).trans d0; have q1 := (hSq.cell (p := ⟨ga, m, none⟩) hw1).trans d1; have q2 := (hSq.cell (p := ⟨g, P, none⟩) hw2).trans d2; have q3 := (hSq.cell (p := ⟨gi, Q, none⟩) hw3).trans d3; go_simp <;> first | with_reducible rfl | rfl)
                simp only [Act.put, List.setIfInBounds_toArray, List.set_cons_zero, List.set_cons_succ]
                refine take_on (i := 4) (v := ?_) rfl rfl (by kernel_rfl) (by kernel_rfl) (by kernel_rfl) (fun _ _ _ h => h) rfl ?_ hHeld ?_
                rotate_left
                · (intro wq hSq; have q0 := (hSq.cell (p := ⟨ga, k, none⟩) hw1).trans d0; have q1 := (hSq.cell (p := ⟨ga, m, none⟩) hw1).trans d1; have q2 := (hSq.cell (p := ⟨g, P, none⟩) hw2).trans d2; have q3 := (hSq.cell (p := ⟨gi, Q, none⟩) hw3).trans d3; go_simp <;> first | with_reducible rfl | rfl)
                simp only [Act.put, List.setIfInBounds_toArray, List.set_cons_zero, List.set_cons_succ]
                refine take_on (i := 5) (v := ?_) rfl rfl (by kernel_rfl) (by kernel_rfl) (by kernel_rfl) (fun _ _ _ h => h) rfl ?_ hHeld ?_
                rotate_left
                · (intro wq hSq; have q0 := (hSq.cell (p := ⟨ga, k, none⟩) hw1).trans d0; have q1 := (hSq.cell (p := ⟨ga, m, none⟩) hw1).trans d1; have q2 := (hSq.cell (p := ⟨g, P, none⟩) hw2).trans d2; have q3 := (hSq.cell (p := ⟨gi, Q, none⟩) hw3).trans d3; go_simp <;> first | with_reducible rfl | rfl)
                simp only [Act.put, List.setIfInBounds_toArray, List.set_cons_zero, List.set_cons_succ]
                refine take_on (i := 6) (v := ?_) rfl rfl (by kernel_rfl) (by kernel_rfl) (by kernel_rfl) (fun _ _ _ h => h) rfl ?_ hHeld ?_
                rotate_left
                · (intro wq hSq; have q0 := (hSq.cell (p := ⟨ga, k, none⟩) hw1).trans d0; have q1 := (hSq.cell (p := ⟨ga, m, none⟩) hw1).trans d1; have q2 := (hSq.cell (p := ⟨g, P, none⟩) hw2).trans d2; have q3 := (hSq.cell (p := ⟨gi, Q, none⟩) hw3).trans d3; go_simp <;> first | with_reducible rfl | rfl)
                simp only [Act.put, List.setIfInBounds_toArray, List.set_cons_zero, List.set_cons_succ]
                refine take_on (i := 7) (v := ?_) rfl rfl (by kernel_rfl) (by kernel_rfl) (by kernel_rfl) (fun _ _ _ h => h) rfl ?_ hHeld ?_
                rotate_left
                · (intro wq hSq; have q0 := (hSq.cell (p := ⟨ga, k, none⟩) hw1).trans d0; have q1 := (hSq.cell (p := ⟨ga, m, none⟩) hw1).trans d1; have q2 := (hSq.cell (p := ⟨g, P, none⟩) hw2).trans d2; have q3 := (hSq.cell (p := ⟨gi, Q, none⟩) hw3).trans d3; go_simp <;> first | with_reducible rfl | rfl)
                simp only [Act.put, List.setIfInBounds_toArray, List.set_cons_zero, List.set_cons_succ]
                refine take_on (i := 8) (v := ?_) rfl rfl (by kernel_rfl) (by kernel_rfl) (by kernel_rfl) (fun _ _ _ h => h) rfl ?_ hHeld ?_
                rotate_left
                · (intro wq hSq; have q0 := (hSq.cell (p := ⟨ga, k, none⟩) hw1).trans d0; have q1 := (hSq.cell (p := ⟨ga, m, none⟩) hw1).trans d1; have q2 := (hSq.cell (p := ⟨g, P, none⟩) hw2).trans d2; have q3 := (hSq.cell (p := ⟨gi, Q, none⟩) hw3).trans d3; go_simp <;> first | with_reducible rfl | rfl)
                simp only [Act.put, List.setIfInBounds_toArray, List.set_cons_zero, List.set_cons_succ]
                refine take_on (i := 9) (v := ?_) rfl rfl (by kernel_rfl) (by kernel_rfl) (by kernel_rfl) (fun _ _ _ h => h) rfl ?_ hHeld ?_
                rotate_left
                · (intro wq hSq; have q0 := (hSq.cell (p := ⟨ga, k, none⟩) hw1).trans d0; have q1 := (hSq.cell (p := ⟨ga, m, none⟩) hw1).trans d1; have q2 := (hSq.cell (p := ⟨g, P, none⟩) hw2).trans d2; have q3 := (hSq.cell (p := ⟨gi, Q, none⟩) hw3).trans d3; go_simp <;> first | with_reducible rfl | rfl)
                simp only [Act.put, List.setIfInBounds_toArray, List.set_cons_zero, List.set_cons_succ]
                refine take_on (i := 10) (v := ?_) rfl rfl (by kernel_rfl) (by kernel_rfl) (by kernel_rfl) (fun _ _ _ h => h) rfl ?_ hHeld ?_
                rotate_left
                · (intro wq hSq; have q0 := (hSq.cell (p := ⟨ga, k, none⟩) hw1).trans d0; have q1 := (hSq.cell (p := ⟨ga, m, none⟩) hw1).trans d1; have q2 := (hSq.cell (p := ⟨g, P, none⟩) hw2).trans d2; have q3 := (hSq.cell (p := ⟨gi, Q, none⟩) hw3).trans d3; go_simp <;> first | with_reducible rfl | rfl)
                simp only [Act.put, List.setIfInBounds_toArray, List.set_cons_zero, List.set_cons_succ]
                refine take_on (i := 11) (v := ?_) rfl rfl (by kernel_rfl) (by kernel_rfl) (by kernel_rfl) (fun _ _ _ h => h) rfl ?_ hHeld ?_
                rotate_left
                · (intro wq hSq; have q0 := (hSq.cell (p := ⟨ga, k, none⟩) hw1).trans d0; have q1 := (hSq.cell (p := ⟨ga, m, none⟩) hw1).trans d1; have q2 := (hSq.cell (p := ⟨g, P, none⟩) hw2).trans d2; have q3 := (hSq.cell (p := ⟨gi, Q, none⟩) hw3).trans d3; go_simp <;> first | with_reducible rfl | rfl)
                simp only [Act.put, List.setIfInBounds_toArray, List.set_cons_zero, List.set_cons_succ]
                refine take_on (i := 12) (v := ?_) rfl rfl (by kernel_rfl) (by kernel_rfl) (by kernel_rfl) (fun _ _ _ h => h) rfl ?_ hHeld ?_
                rotate_left
                · (intro wq hSq; have q0 := (hSq.cell (p := ⟨ga, k, none⟩) hw1).trans d0; have q1 := (hSq.cell (p := ⟨ga, m, none⟩) hw1).trans d1; have q2 := (hSq.cell (p := ⟨g, P, none⟩) hw2).trans d2; have q3 := (hSq.cell (p := ⟨gi, Q, none⟩) hw3).trans d3; go_simp <;> first | with_reducible rfl | rfl)
                simp only [Act.put, List.setIfInBounds_toArray, List.set_cons_zero, List.set_cons_succ]
                refine wpAnyH_done (by kernel_rfl) ?_ _
                go_wp2_with fail
                go_roundw
                case rel => exact ⟨m + 1, by omega, by go_num, (by rw [HNX.out]; exact hP), hb4.drew⟩
                case measure => simp [intOf]; omega
              | true =>
                have hnx : (prs zs k ++ (covTo zs k (m + 1)).map fun j => (k, j)) = (prs zs k ++ (covTo zs k m).map fun j => (k, j)) ++ [(k, m)] := by rw [HYES.out rfl, List.map_append, ← List.append_assoc]; rfl
                have HNX := hidden hnx
                clear HNO HYES hnx
                generalize (prs zs k ++ (covTo zs k m).map fun j => (k, j)) = pr at *
                have hn63 : pr.length + 1 ≤ maxLen := by unfold maxLen; omega
                have hone : ∀ u ∈ [Value.int .i64 (k : Int), .int .i64 (m : Int)], u.oneCell' = true := by simp [Value.oneCell']
                have hPd : wr.drew.ownsRow W4.heap.size 34 2 _ pr.length (pr.flatMap encP) := hP
                have hPa := hPd.alloc (.cells #[.int .i64 (k : Int), .int .i64 (m : Int)] 34)
                go_wp2_with fail
                refine wp_region_held_drew (S := (fun w' => Below wr.heap.size wr w')) (by kernel_rfl) ?_ (fun hHeld => ?_)
                · exact (Below.refl _ _).drew
                refine take_on (i := 0) (v := ?_) rfl rfl (by kernel_rfl) (by kernel_rfl) (by kernel_rfl) (fun _ _ _ h => h) rfl ?_ hHeld ?_
                rotate_left
                · (intro wq hSq; have q0 := (hSq.cell (p := ⟨ga, k, none⟩) hw1).trans d0; have q1 := (hSq.cell (p := ⟨ga, m, none⟩) hw1).trans d1; have q2 := (hSq.cell (p := ⟨g, P, none⟩) hw2).trans d2; have q3 := (hSq.cell (p := ⟨gi, Q, none⟩) hw3).trans d3; go_simp <;> first | with_reducible rfl | rfl)
                simp only [Act.put, List.setIfInBounds_toArray, List.set_cons_zero, List.set_cons_succ]
                refine take_on (i := 1) (v := ?_) rfl rfl (by kernel_rfl) (by kernel_rfl) (by kernel_rfl) (fun _ _ _ h => h) rfl ?_ hHeld ?_
                rotate_left
                · (intro wq hSq; have q0 := (hSq.cell (p := ⟨ga, k, none⟩) hw1).trans d0; have q1 := (hSq.cell (p := ⟨ga, m, none⟩) hw1).trans d1; have q2 := (hSq.cell (p := ⟨g, P, none⟩) hw2).trans d2; have q3 := (hSq.cell (p := ⟨gi, Q, none⟩) hw3).trans d3; go_simp <;> first | with_reducible rfl | rfl)
                simp only [Act.put, List.setIfInBounds_toArray, List.set_cons_zero, List.set_cons_succ]
                refine take_on (i := 2) (v := ?_) rfl rfl (by kernel_rfl) (by kernel_rfl) (by kernel_rfl) (fun _ _ _ h => h) rfl ?_ hHeld ?_
                rotate_left
                · (intro wq hSq; have q0 := (hSq.cell (p := ⟨ga, k, none⟩) hw1).trans d0; have q1 := (hSq.cell (p := ⟨ga, m, none⟩) hw1).trans d1; have q2 := (hSq.cell (p := ⟨g, P, none⟩) hw2).trans d2; have q3 := (hSq.cell (p := ⟨gi, Q, none⟩) hw3).trans d3; go_simp <;> first | with_reducible rfl | rfl)
                simp only [Act.put, List.setIfInBounds_toArray, List.set_cons_zero, List.set_cons_succ]
                refine take_on (i := 3) (v := ?_) rfl rfl (by kernel_rfl) (by kernel_rfl) (by kernel_rfl) (fun _ _ _ h => h) rfl ?_ hHeld ?_
                rotate_left
                · (intro wq hSq; have q0 := (hSq.cell (p := ⟨ga, k, none⟩) hw1).trans d0; have q1 := (hSq.cell (p := ⟨ga, m, none⟩) hw1).trans d1; have q2 := (hSq.cell (p := ⟨g, P, none⟩) hw2).trans d2; have q3 := (hSq.cell (p := ⟨gi, Q, none⟩) hw3).trans d3; go_simp <;> first | with_reducible rfl | rfl)
                simp only [Act.put, List.setIfInBounds_toArray, List.set_cons_zero, List.set_cons_succ]
                refine take_on (i := 4) (v := ?_) rfl rfl (by kernel_rfl) (by kernel_rfl) (by kernel_rfl) (fun _ _ _ h => h) rfl ?_ hHeld ?_
                rotate_left
                · (intro wq hSq; have q0 := (hSq.cell (p := ⟨ga, k, none⟩) hw1).trans d0; have q1 := (hSq.cell (p := ⟨ga, m, none⟩) hw1).trans d1; have q2 := (hSq.cell (p := ⟨g, P, none⟩) hw2).trans d2; have q3 := (hSq.cell (p := ⟨gi, Q, none⟩) hw3).trans d3; go_simp <;> first | with_reducible rfl | rfl)
                simp only [Act.put, List.setIfInBounds_toArray, List.set_cons_zero, List.set_cons_succ]
                refine take_on (i := 5) (v := ?_) rfl rfl (by kernel_rfl) (by kernel_rfl) (by kernel_rfl) (fun _ _ _ h => h) rfl ?_ hHeld ?_
                rotate_left
                · (intro wq hSq; have q0 := (hSq.cell (p := ⟨ga, k, none⟩) hw1).trans d0; have q1 := (hSq.cell (p := ⟨ga, m, none⟩) hw1).trans d1; have q2 := (hSq.cell (p := ⟨g, P, none⟩) hw2).trans d2; have q3 := (hSq.cell (p := ⟨gi, Q, none⟩) hw3).trans d3; go_simp <;> first | with_reducible rfl | rfl)
                simp only [Act.put, List.setIfInBounds_toArray, List.set_cons_zero, List.set_cons_succ]
                refine take_on (i := 6) (v := ?_) rfl rfl (by kernel_rfl) (by kernel_rfl) (by kernel_rfl) (fun _ _ _ h => h) rfl ?_ hHeld ?_
                rotate_left
                · (intro wq hSq; have q0 := (hSq.cell (p := ⟨ga, k, none⟩) hw1).trans d0; have q1 := (hSq.cell (p := ⟨ga, m, none⟩) hw1).trans d1; have q2 := (hSq.cell (p := ⟨g, P, none⟩) hw2).trans d2; have q3 := (hSq.cell (p := ⟨gi, Q, none⟩) hw3).trans d3; go_simp <;> first | with_reducible rfl | rfl)
                simp only [Act.put, List.setIfInBounds_toArray, List.set_cons_zero, List.set_cons_succ]
                refine take_on (i := 7) (v := ?_) rfl rfl (by kernel_rfl) (by kernel_rfl) (by kernel_rfl) (fun _ _ _ h => h) rfl ?_ hHeld ?_
                rotate_left
                · (intro wq hSq; have q0 := (hSq.cell (p := ⟨ga, k, none⟩) hw1).trans d0; have q1 := (hSq.cell (p := ⟨ga, m, none⟩) hw1).trans d1; have q2 := (hSq.cell (p := ⟨g, P, none⟩) hw2).trans d2; have q3 := (hSq.cell (p := ⟨gi, Q, none⟩) hw3).trans d3; go_simp <;> first | with_reducible rfl | rfl)
                simp only [Act.put, List.setIfInBounds_toArray, List.set_cons_zero, List.set_cons_succ]
                refine take_on (i := 8) (v := ?_) rfl rfl (by kernel_rfl) (by kernel_rfl) (by kernel_rfl) (fun _ _ _ h => h) rfl ?_ hHeld ?_
                rotate_left
                · (intro wq hSq; have q0 := (hSq.cell (p := ⟨ga, k, none⟩) hw1).trans d0; have q1 := (hSq.cell (p := ⟨ga, m, none⟩) hw1).trans d1; have q2 := (hSq.cell (p := ⟨g, P, none⟩) hw2).trans d2; have q3 := (hSq.cell (p := ⟨gi, Q, none⟩) hw3).trans d3; go_simp <;> first | with_reducible rfl | rfl)
                simp only [Act.put, List.setIfInBounds_toArray, List.set_cons_zero, List.set_cons_succ]
                refine take_on (i := 9) (v := ?_) rfl rfl (by kernel_rfl) (by kernel_rfl) (by kernel_rfl) (fun _ _ _ h => h) rfl ?_ hHeld ?_
                rotate_left
                · (intro wq hSq; have q0 := (hSq.cell (p := ⟨ga, k, none⟩) hw1).trans d0; have q1 := (hSq.cell (p := ⟨ga, m, none⟩) hw1).trans d1; have q2 := (hSq.cell (p := ⟨g, P, none⟩) hw2).trans d2; have q3 := (hSq.cell (p := ⟨gi, Q, none⟩) hw3).trans d3; go_simp <;> first | with_reducible rfl | rfl)
                simp only [Act.put, List.setIfInBounds_toArray, List.set_cons_zero, List.set_cons_succ]
                refine take_on (i := 10) (v := ?_) rfl rfl (by kernel_rfl) (by kernel_rfl) (by kernel_rfl) (fun _ _ _ h => h) rfl ?_ hHeld ?_
                rotate_left
                · (intro wq hSq; have q0 := (hSq.cell (p := ⟨ga, k, none⟩) hw1).trans d0; have q1 := (hSq.cell (p := ⟨ga, m, none⟩) hw1).trans d1; have q2 := (hSq.cell (p := ⟨g, P, none⟩) hw2).trans d2; have q3 := (hSq.cell (p := ⟨gi, Q, none⟩) hw3).trans d3; go_simp <;> first | with_reducible rfl | rfl)
                simp only [Act.put, List.setIfInBounds_toArray, List.set_cons_zero, List.set_cons_succ]
                refine take_on (i := 11) (v := ?_) rfl rfl (by kernel_rfl) (by kernel_rfl) (by kernel_rfl) (fun _ _ _ h => h) rfl ?_ hHeld ?_
                rotate_left
                · (intro wq hSq; have q0 := (hSq.cell (p := ⟨ga, k, none⟩) hw1).trans d0; have q1 := (hSq.cell (p := ⟨ga, m, none⟩) hw1).trans d1; have q2 := (hSq.cell (p := ⟨g, P, none⟩) hw2).trans d2; have q3 := (hSq.cell (p := ⟨gi, Q, none⟩) hw3).trans d3; go_simp <;> first | with_reducible rfl | rfl)
                simp only [Act.put, List.setIfInBounds_toArray, List.set_cons_zero, List.set_cons_succ]
                refine take_on (i := 12) (v := ?_) rfl rfl (by kernel_rfl) (by kernel_rfl) (by kernel_rfl) (fun _ _ _ h => h) rfl ?_ hHeld ?_
                rotate_left
                · (intro wq hSq; have q0 := (hSq.cell (p := ⟨ga, k, none⟩) hw1).trans d0; have q1 := (hSq.cell (p := ⟨ga, m, none⟩) hw1).trans d1; have q2 := (hSq.cell (p := ⟨g, P, none⟩) hw2).trans d2; have q3 := (hSq.cell (p := ⟨gi, Q, none⟩) hw3).trans d3; go_simp <;> first | with_reducible rfl | rfl)
                simp only [Act.put, List.setIfInBounds_toArray, List.set_cons_zero, List.set_cons_succ]
                refine wpAnyH_done (by kernel_rfl) ?_ _
                go_wp2_with (first | (at_builtin; refine wpList_append_own_at _ rfl _ _ 26 rfl W4.heap.size 34 j0 (.agg #[.int .i64 0, .int .i64 0]) 2 16 Try.underlying26 hj hj0 hj1 hj2 rfl (by omega) _ _ _ rfl hPa ⟨wr.heap.size, 0, none⟩ 1 1 [.int .i64 (k : Int), .int .i64 (m : Int)] rfl rfl (cell_two_new _ _ _ _) hone hn63 (by omega) (by simp; omega) ?_; intro v4 w4 hown4 hgrow4 hnil4 hat4'))
                have hb5 := hb4.drew.alloc hbs (.cells #[.int .i64 (k : Int), .int .i64 (m : Int)] 34)
                have hb6 := hb5.grown hgrow4 hb5.size (fun j e => own_ge hP e)
                go_roundw
                case rel =>
                  refine ⟨m + 1, by omega, by go_num, ?_, hb6⟩
                  rw [HNX.out, flat_one]
                  simpa using hown4
                case measure => simp [intOf]; omega
            · have hme : m = zs.length := by omega
              subst hme
              go_wp2_with fail
              go_roundw
              case rel => exact ⟨k + 1, by omega, by go_num, (by rw [prs_succ]; exact hP), hb4⟩
              case measure => simp [intOf]; omega
        · have hke2 : k = zs.length := by omega
          subst hke2
          go_wp2_with fail
          go_ret
          refine ⟨⟨_, rfl, hP.1, ?_⟩, hb14.trans (hb4.mono hws)⟩
          rcases hP.2 with h0 | ⟨g', cp, cur, e, hbs, r⟩
          · exact .inl h0
          · exact .inr ⟨g', cp, cur, e, Nat.le_trans hws hbs, r⟩

end Go.Proofs.Ythclmkmajlinhab
